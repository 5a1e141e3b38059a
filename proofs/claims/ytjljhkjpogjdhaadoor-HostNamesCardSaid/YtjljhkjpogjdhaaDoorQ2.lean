/- What the proof needs, part 2. -/
import Derived.Test.YtjljhkjpogjdhaaDoorR3
import Derived.Test.YtjljhkjpogjdhaaDoorProg
import Derived.ProofKit
import Derived.Test.YtjljhkjpogjdhaaDoorLow
import Derived.Test.YtjljhkjpogjdhaaDoorQ1
/- The function gossamer/gossamerlaw10.HostNames does what is told of it. -/
section
set_option linter.unusedVariables false
set_option linter.unusedSimpArgs false
set_option maxRecDepth 100000
set_option maxHeartbeats 4000000
namespace Go.Proofs.YtjljhkjpogjdhaaDoor
open Go Go.Proofs Go.RowKit Go.Vc

theorem low_nat (b : UInt8) : (lowB1 b).toNat = if 65 ≤ b.toNat ∧ b.toNat ≤ 90 then b.toNat + 32 else b.toNat := by
  unfold lowB1
  split
  · rename_i h; rw [UInt8.toNat_add]; show (b.toNat + 32) % 256 = _; omega
  · rfl
def LSL : List Bs := [[97], [101, 120, 97, 109, 112, 108, 101], [120, 45, 49], [120, 110, 45], [120, 110, 45, 45, 97], [111, 114, 103], [110, 48], [99, 45], [45]]
def xna : Bs := [120, 110, 45, 45, 97]
def lab (n : Int) : Bs := strZ LSL (lowN n 9)
theorem lab_mem (n : Int) : lab n ∈ LSL := by
  have h := lowN_bd n 9 (by decide)
  unfold lab strZ
  rw [List.getD_eq_getElem?_getD, List.getElem?_eq_getElem (show (lowN n 9).toNat < LSL.length by show _ < 9; omega)]
  exact List.getElem_mem _
def goodC (b : UInt8) : Bool := decide (b.toNat = 45 ∨ (48 ≤ b.toNat ∧ b.toNat ≤ 57) ∨ (97 ≤ b.toNat ∧ b.toNat ≤ 122))
theorem lab_all : ∀ t ∈ LSL, t.all goodC = true ∧ t ≠ [] ∧ endsB t = false := by decide +kernel
def dotW : List Bs → Bs
  | [] => []
  | t :: ts => 46 :: t ++ dotW ts
def wantW (l : List Bs) : Bs := (dotW l).drop 1
theorem dotW_snoc (l : List Bs) (t : Bs) : dotW (l ++ [t]) = dotW l ++ 46 :: t := by
  induction l with
  | nil => show 46 :: t ++ [] = _; rw [List.append_nil]; rfl
  | cons a l ih => show 46 :: a ++ dotW (l ++ [t]) = 46 :: a ++ dotW l ++ _; rw [ih, List.append_assoc]
theorem want_one (t : Bs) : wantW [t] = t := by show (46 :: t ++ []).drop 1 = t; rw [List.append_nil]; rfl
theorem want_snoc {l : List Bs} (h : l ≠ []) (t : Bs) : wantW (l ++ [t]) = wantW l ++ 46 :: t := by
  cases l with
  | nil => exact absurd rfl h
  | cons a l =>
    unfold wantW
    rw [dotW_snoc]
    rfl
def scanX : Bs → Bool
  | [] => false
  | b :: r => List.isPrefixOf [46, 120, 110, 45, 45] (b :: r) || scanX r
theorem has_scan : ∀ l : Bs, hasB l [46, 120, 110, 45, 45] = scanX l
  | [] => rfl
  | b :: r => by
    have ih := has_scan r
    unfold hasB Lib.contains at ih ⊢
    have hge : -1 ≤ Lib.index r [46, 120, 110, 45, 45] := by
      have : ∀ l : Bs, -1 ≤ Lib.index l [46, 120, 110, 45, 45] := fun l => by
        induction l with
        | nil => decide
        | cons a l ih =>
          show -1 ≤ (if List.isPrefixOf [46, 120, 110, 45, 45] (a :: l) then 0 else if Lib.index l [46, 120, 110, 45, 45] == -1 then -1 else Lib.index l [46, 120, 110, 45, 45] + 1 : Int)
          (repeat' split) <;> omega
      exact this r
    show decide (0 ≤ (if List.isPrefixOf [46, 120, 110, 45, 45] (b :: r) then 0 else if Lib.index r [46, 120, 110, 45, 45] == -1 then -1 else Lib.index r [46, 120, 110, 45, 45] + 1 : Int)) = (List.isPrefixOf [46, 120, 110, 45, 45] (b :: r) || scanX r)
    rw [← ih]
    cases List.isPrefixOf [46, 120, 110, 45, 45] (b :: r) with
    | true => rfl
    | false =>
      simp only [Bool.false_eq_true, if_false, Bool.false_or]
      rw [decide_eq_decide]
      split
      · rename_i h; have := eq_of_beq h; omega
      · rename_i h; have : ¬ Lib.index r [46, 120, 110, 45, 45] = -1 := fun e => h (by rw [e]; rfl)
        omega
theorem scan_lab : ∀ (t : Bs) (r : Bs), t ∈ LSL → (r = [] ∨ ∃ q, r = 46 :: q) → scanX (46 :: t ++ r) = (decide (t = xna) || scanX r) := by
  intro t r ht hr
  unfold LSL at ht
  simp only [List.mem_cons, List.not_mem_nil, or_false] at ht
  rcases hr with rfl | ⟨q, rfl⟩ <;> rcases ht with rfl | rfl | rfl | rfl | rfl | rfl | rfl | rfl | rfl <;> simp [scanX, List.isPrefixOf, xna]
theorem scan_dot : ∀ l : List Bs, (∀ t ∈ l, t ∈ LSL) → scanX (dotW l) = l.any (fun t => decide (t = xna))
  | [], _ => rfl
  | t :: ts, h => by
    rw [List.any_cons, ← scan_dot ts (fun x hx => h x (List.mem_cons_of_mem _ hx))]
    refine scan_lab t (dotW ts) (h t (List.mem_cons_self ..)) ?_
    cases ts with
    | nil => exact .inl rfl
    | cons a ts => exact .inr ⟨_, rfl⟩
theorem odd_scan {l : List Bs} (hl : l ≠ []) (h : ∀ t ∈ l, t ∈ LSL) : (preB (wantW l) xnL || hasB (wantW l) dxnL) = l.any (fun t => decide (t = xna)) := by
  rw [← scan_dot l h]
  cases l with
  | nil => exact absurd rfl hl
  | cons t ts =>
    have e : dotW (t :: ts) = 46 :: wantW (t :: ts) := rfl
    rw [e, show hasB (wantW (t :: ts)) dxnL = scanX (wantW (t :: ts)) from has_scan _]
    rfl
theorem good_dot : ∀ l : List Bs, (∀ t ∈ l, t ∈ LSL) → ∀ b ∈ dotW l, goodC b = true ∨ b.toNat = 46
  | [], _, b, hb => by cases hb
  | t :: ts, h, b, hb => by
    have hb : b ∈ 46 :: t ++ dotW ts := hb
    rw [List.mem_append, List.mem_cons] at hb
    rcases hb with (rfl | hb) | hb
    · exact .inr rfl
    · exact .inl (List.all_eq_true.1 (lab_all t (h t (List.mem_cons_self ..))).1 b hb)
    · exact good_dot ts (fun x hx => h x (List.mem_cons_of_mem _ hx)) b hb
theorem good_want {l : List Bs} (h : ∀ t ∈ l, t ∈ LSL) : ∀ b ∈ wantW l, goodC b = true ∨ b.toNat = 46 := fun b hb => good_dot l h b (List.mem_of_mem_drop hb)
theorem good_nod : ∀ n : Fin 256, (goodC (UInt8.ofNat n.val) = true ∨ n.val = 46) → nodB (n.val : Int) = false ∧ n.val < 128 := by decide +kernel
theorem good_nodB {b : UInt8} (h : goodC b = true ∨ b.toNat = 46) : nodB (b.toNat : Int) = false ∧ b.toNat < 128 := by
  have := good_nod ⟨b.toNat, b.toNat_lt⟩
  dsimp only at this
  rw [UInt8.ofNat_toNat] at this
  exact this h
theorem idx_none (p : Nat → Bool) (s : ByteArray) (h : ∀ (i : Nat) (hi : i < s.size), (s[i]'hi).toNat < 128 ∧ p (s[i]'hi).toNat = false) : ∀ (f pos : Nat), Lib.idxFuncFrom p true s f pos = -1
  | 0, _ => rfl
  | f + 1, pos => by
    unfold Lib.idxFuncFrom
    split
    · rename_i hp
      rw [decode_ascii s pos hp (h pos hp).1]
      dsimp only
      rw [(h pos hp).2, if_neg (by decide)]
      exact idx_none p s h f (pos + 1)
    · rfl
theorem cf_good {l : Bs} (h : ∀ b ∈ l, goodC b = true ∨ b.toNat = 46) : cfB l = false := by
  unfold cfB Lib.idxFunc
  rw [idx_none _ _ (fun i hi => by
    have hi2 : i < l.length := by simpa using hi
    have e : (⟨l.toArray⟩ : ByteArray)[i]'hi = l[i]'hi2 := by show l.toArray[i]'(by simpa using hi2) = _; simp
    rw [e]
    have := good_nodB (h _ (List.getElem_mem hi2))
    exact ⟨this.2, this.1⟩)]
  rfl
theorem byt_right (x t : Bs) (j : Nat) : byt (x ++ t) (x.length + j) = byt t j := by
  unfold byt
  rw [List.getD_eq_getElem?_getD, List.getD_eq_getElem?_getD, List.getElem?_append_right (by omega), Nat.add_sub_cancel_left]
theorem byt_good {t : Bs} (h : t.all goodC = true) {j : Nat} (hj : j < t.length) : byt t j ≠ 46 := by
  have := List.all_eq_true.1 h _ (getD_in t j hj)
  unfold goodC at this
  have := of_decide_eq_true this
  unfold byt
  omega
theorem end4_last (x t : Bs) (hx : x = [] ∨ ∃ y, x = y ++ [46]) (ht : t.all goodC = true) (hn : t ≠ []) (he : endsB t = false) : end4 (x ++ t) = false := by
  have htl : 0 < t.length := List.length_pos_iff.2 hn
  have hlen : (x ++ t).length = x.length + t.length := List.length_append
  have htr : trimL (x ++ t) = x ++ t := by
    unfold trimL
    rw [if_neg]
    intro h
    have h2 := h.2
    rw [hlen, show x.length + t.length - 1 = x.length + (t.length - 1) by omega, byt_right] at h2
    exact byt_good ht (by omega) h2
  have hk : lastK (x ++ t) = x.length := by
    obtain ⟨k1, k2, k3, -⟩ := lastK_spec (x ++ t)
    rw [hlen] at k1 k3
    rcases Nat.lt_trichotomy (lastK (x ++ t)) x.length with h | h | h
    · rcases hx with rfl | ⟨y, rfl⟩
      · simp at h
      · exfalso
        have hy : (y ++ [46]).length = y.length + 1 := by simp
        refine k3 y.length (by omega) (by omega) ?_
        rw [List.append_assoc]
        have := byt_right y ([46] ++ t) 0
        rw [Nat.add_zero] at this
        rw [this]; rfl
    · exact h
    · exfalso
      rcases k2 with k2 | k2
      · omega
      · rw [show lastK (x ++ t) - 1 = x.length + (lastK (x ++ t) - 1 - x.length) by omega, byt_right] at k2
        exact byt_good ht (by omega) k2
  unfold end4
  rw [htr, hk, List.drop_left]
  exact he
theorem end4_want : ∀ {l : List Bs}, l ≠ [] → (∀ t ∈ l, t ∈ LSL) → end4 (wantW l) = false := by
  intro l hl h
  obtain ⟨ts, t, rfl⟩ : ∃ ts t, l = ts ++ [t] := ⟨l.dropLast, l.getLast hl, (List.dropLast_concat_getLast hl).symm⟩
  obtain ⟨h1, h2, h3⟩ := lab_all t (h t (by simp))
  by_cases e : ts = []
  · subst e
    rw [List.nil_append, want_one]
    exact end4_last [] t (.inl rfl) h1 h2 h3
  · rw [want_snoc e, show wantW ts ++ 46 :: t = (wantW ts ++ [46]) ++ t by simp]
    exact end4_last _ t (.inr ⟨_, rfl⟩) h1 h2 h3
theorem want_ne {l : List Bs} (hl : l ≠ []) (h : ∀ t ∈ l, t ∈ LSL) : wantW l ≠ [] := by
  cases l with
  | nil => exact absurd rfl hl
  | cons t ts =>
    intro e
    have e2 : t ++ dotW ts = [] := e
    exact (lab_all t (h t (List.mem_cons_self ..))).2.1 (List.append_eq_nil_iff.1 e2).1
theorem dom_want {l : List Bs} (hl : l ≠ []) (h : ∀ t ∈ l, t ∈ LSL) : domR (wantW l) = if l.any (fun t => decide (t = xna)) = true then noH 9 else (2, wantW l, 0, z8, 0) := by
  have hg := good_want h
  have ha : (wantW l).all ascC = true := by
    rw [List.all_eq_true]
    intro b hb
    have := (good_nodB (hg b hb)).2
    unfold ascC
    exact decide_eq_true (by omega)
  have hu : untB (wantW l) = l.any (fun t => decide (t = xna)) := by
    rw [← odd_scan hl h]
    unfold untB
    rw [ha]; rfl
  unfold domR
  rw [hu]
  by_cases hc : l.any (fun t => decide (t = xna)) = true
  · rw [if_pos hc, if_pos hc]
  · rw [if_neg hc, if_neg hc, if_neg (fun g => by
      rcases g with g | g
      · exact want_ne hl h g
      · rw [cf_good hg] at g; cases g), if_pos (end4_want hl h)]
/-- What a text tells, whatever stands behind it. -/
def Dec (s w : Bs) : Prop := ∀ r, lowB (decP (s ++ r)) = w ++ lowB (decP r)
theorem Dec.nil : Dec [] [] := fun r => rfl
theorem decP_miss {b : UInt8} (hb : b.toNat ≠ 37) (r : Bs) : decP (b :: r) = b :: decP r := by
  rw [decP_cons, if_neg (fun h => hb h.1)]
theorem Dec.snoc {s w : Bs} (h : Dec s w) {b c : UInt8} (hb : b.toNat ≠ 37) (hc : lowB1 b = c) : Dec (s ++ [b]) (w ++ [c]) := fun r => by
  rw [List.append_assoc, h, List.append_assoc]
  show w ++ lowB (decP (b :: r)) = w ++ (c :: lowB (decP r))
  rw [decP_miss hb, ← hc]; rfl
theorem hexS_dec : ∀ n : Fin 256, 0 ≤ hxZ (byteZ dgU (shrZ IntKind.u8 (n.val : Int) 4)) ∧ 0 ≤ hxZ (byteZ dgU (bitsZ BinOp.and IntKind.u8 (n.val : Int) 15)) ∧ hxZ (byteZ dgU (shrZ IntKind.u8 (n.val : Int) 4)) * 16 + hxZ (byteZ dgU (bitsZ BinOp.and IntKind.u8 (n.val : Int) 15)) = (n.val : Int) := by decide +kernel
theorem zB_of (b : UInt8) : zByte (b.toNat : Int) = b := by
  apply UInt8.toNat_inj.1
  have := zB_nat (b := (b.toNat : Int)) (by omega) (by have := b.toNat_lt; omega)
  omega
theorem Dec.hex {s w : Bs} (h : Dec s w) {b c : UInt8} (hc : lowB1 b = c) : Dec (s ++ hexS (b.toNat : Int)) (w ++ [c]) := fun r => by
  rw [List.append_assoc, h, List.append_assoc]
  congr 1
  have hk := hexS_dec ⟨b.toNat, b.toNat_lt⟩
  have hk2 := hexS_key ⟨b.toNat, b.toNat_lt⟩
  dsimp only at hk hk2
  obtain ⟨k1, k2, k3⟩ := hk
  obtain ⟨-, -, k4, k5⟩ := hk2
  show lowB (decP (37 :: zByte (byteZ dgU (shrZ IntKind.u8 (b.toNat : Int) 4)) :: zByte (byteZ dgU (bitsZ BinOp.and IntKind.u8 (b.toNat : Int) 15)) :: r)) = c :: lowB (decP r)
  rw [decP_cons, if_pos]
  · show lowB1 (zByte (hxZ (((zByte (byteZ dgU (shrZ IntKind.u8 (b.toNat : Int) 4))).toNat : Nat) : Int) * 16 + hxZ (((zByte (byteZ dgU (bitsZ BinOp.and IntKind.u8 (b.toNat : Int) 15))).toNat : Nat) : Int))) :: lowB (decP r) = _
    rw [zB_nat k4.1 k4.2, zB_nat k5.1 k5.2, k3, zB_of, hc]
  · refine ⟨rfl, by simp, ?_, ?_⟩
    · show 0 ≤ hxZ (((zByte (byteZ dgU (shrZ IntKind.u8 (b.toNat : Int) 4))).toNat : Nat) : Int)
      rw [zB_nat k4.1 k4.2]; exact k1
    · show 0 ≤ hxZ (((zByte (byteZ dgU (bitsZ BinOp.and IntKind.u8 (b.toNat : Int) 15))).toNat : Nat) : Int)
      rw [zB_nat k5.1 k5.2]; exact k2
theorem pre91_app {s : Bs} (t : Bs) (h : s ≠ []) : preB (s ++ t) [91] = preB s [91] := by
  cases s with
  | nil => exact absurd rfl h
  | cons a s => show (91 == a && _) = (91 == a && _); simp [List.isPrefixOf]
theorem host_names {l : List Bs} {s : Bs} (hl : l ≠ []) (h : ∀ t ∈ l, t ∈ LSL) (hd : Dec s (wantW l)) (hp : preB s [91] = false) : hostM s = if l.any (fun t => decide (t = xna)) = true then noH 9 else (2, wantW l, 0, z8, 0) := by
  have hd2 := hd []
  rw [List.append_nil] at hd2
  have hd3 : lowB (decP s) = wantW l := by rw [hd2]; exact List.append_nil _
  unfold hostM
  rw [hp, if_neg (by decide), hd3, dom_want hl h]
theorem part_bool2 (b : Bool) : partV Tryd.prog (4 : Nat) (.bool b) (0 : Nat) = .bool b := by cases b <;> kernel_rfl
def labs (ns : List Int) (j : Nat) : List Bs := (ns.take j).map lab
def NamO (ns : List Int) (s w : Bs) (o : Bool) (i : Int) : Prop := ∃ j : Nat, i = j ∧ j ≤ ns.length ∧ w = wantW (labs ns j) ∧ Dec s w ∧ preB s [91] = false ∧ (0 < j → s ≠ []) ∧ o = (labs ns j).any (fun t => decide (t = xna)) ∧ s.length ≤ 100 * j ∧ w.length ≤ 100 * j
def NamI (s0 t x : Bs) (q : Int) : Prop := ∃ j : Nat, q = j ∧ j ≤ t.length ∧ (∀ w, Dec s0 w → Dec x (w ++ t.take j)) ∧ (preB s0 [91] = false → preB x [91] = false) ∧ ((0 < j ∨ s0 ≠ []) → x ≠ []) ∧ x.length ≤ s0.length + 3 * j
def BodN (s0 t : Bs) (i : Int) (shp : List PV) (g : Bool) (V1 V2 V3 V4 : Bs × Int → Prop) (K : Bs × Int → Prop) : Prop := ∀ (y : Bs × Int), NamI s0 t y.fst y.snd → (decide (y.snd < lenZ t) = true → within y.snd (lenZ t) ∧ ((bif bif g then decide ((97 : Int) ≤ byteZ t y.snd) else false then decide (byteZ t y.snd ≤ (122 : Int)) else false) = true → inI64 ((5 : Int) * i) ∧ inI64 ((5 : Int) * i + y.snd) ∧ (decide ((5 : Int) * i + y.snd < lenZ shp) = true → inI64 ((5 : Int) * i)) ∧ (decide ((5 : Int) * i + y.snd < lenZ shp) = true → inI64 ((5 : Int) * i + y.snd)) ∧ (decide ((5 : Int) * i + y.snd < lenZ shp) = true → within ((5 : Int) * i + y.snd) (lenZ shp)) ∧ (decide ((5 : Int) * i + y.snd < lenZ shp) = true → partV Tryd.prog (4 : Nat) (pvZ shp ((5 : Int) * i + y.snd)) (0 : Nat) = PV.bool (partV Tryd.prog (4 : Nat) (pvZ shp ((5 : Int) * i + y.snd)) (0 : Nat)).asBool) ∧ ((bif decide ((5 : Int) * i + y.snd < lenZ shp) then (partV Tryd.prog (4 : Nat) (pvZ shp ((5 : Int) * i + y.snd)) (0 : Nat)).asBool else false) = true → ((0 : Int) ≤ IntKind.u8.wrap (byteZ t y.snd - (32 : Int)) ∧ IntKind.u8.wrap (byteZ t y.snd - (32 : Int)) ≤ (255 : Int)) ∧ List.length y.fst + List.length (hexS (IntKind.u8.wrap (byteZ t y.snd - (32 : Int)))) ≤ Go.Vc.maxLen ∧ inI64 (y.snd + (1 : Int)) ∧ V1 y ∧ NamI s0 t (y.fst ++ hexS (IntKind.u8.wrap (byteZ t y.snd - (32 : Int)))) (y.snd + (1 : Int)) ∧ ((List.length t : Int) - (y.snd + (1 : Int))).toNat < ((List.length t : Int) - y.snd).toNat) ∧ ((bif decide ((5 : Int) * i + y.snd < lenZ shp) then (partV Tryd.prog (4 : Nat) (pvZ shp ((5 : Int) * i + y.snd)) (0 : Nat)).asBool else false) = false → allU8 [PV.int IntKind.u8 (IntKind.u8.wrap (byteZ t y.snd - (32 : Int)))] ∧ List.length y.fst + [zByte (IntKind.u8.wrap (byteZ t y.snd - (32 : Int)))].length ≤ Go.Vc.maxLen ∧ inI64 (y.snd + (1 : Int)) ∧ V2 y ∧ NamI s0 t (y.fst ++ [zByte (IntKind.u8.wrap (byteZ t y.snd - (32 : Int)))]) (y.snd + (1 : Int)) ∧ ((List.length t : Int) - (y.snd + (1 : Int))).toNat < ((List.length t : Int) - y.snd).toNat)) ∧ ((bif bif g then decide ((97 : Int) ≤ byteZ t y.snd) else false then decide (byteZ t y.snd ≤ (122 : Int)) else false) = false → inI64 ((5 : Int) * i) ∧ inI64 ((5 : Int) * i + y.snd) ∧ (decide ((5 : Int) * i + y.snd < lenZ shp) = true → inI64 ((5 : Int) * i)) ∧ (decide ((5 : Int) * i + y.snd < lenZ shp) = true → inI64 ((5 : Int) * i + y.snd)) ∧ (decide ((5 : Int) * i + y.snd < lenZ shp) = true → within ((5 : Int) * i + y.snd) (lenZ shp)) ∧ (decide ((5 : Int) * i + y.snd < lenZ shp) = true → partV Tryd.prog (4 : Nat) (pvZ shp ((5 : Int) * i + y.snd)) (0 : Nat) = PV.bool (partV Tryd.prog (4 : Nat) (pvZ shp ((5 : Int) * i + y.snd)) (0 : Nat)).asBool) ∧ ((bif decide ((5 : Int) * i + y.snd < lenZ shp) then (partV Tryd.prog (4 : Nat) (pvZ shp ((5 : Int) * i + y.snd)) (0 : Nat)).asBool else false) = true → ((0 : Int) ≤ byteZ t y.snd ∧ byteZ t y.snd ≤ (255 : Int)) ∧ List.length y.fst + List.length (hexS (byteZ t y.snd)) ≤ Go.Vc.maxLen ∧ inI64 (y.snd + (1 : Int)) ∧ V3 y ∧ NamI s0 t (y.fst ++ hexS (byteZ t y.snd)) (y.snd + (1 : Int)) ∧ ((List.length t : Int) - (y.snd + (1 : Int))).toNat < ((List.length t : Int) - y.snd).toNat) ∧ ((bif decide ((5 : Int) * i + y.snd < lenZ shp) then (partV Tryd.prog (4 : Nat) (pvZ shp ((5 : Int) * i + y.snd)) (0 : Nat)).asBool else false) = false → allU8 [PV.int IntKind.u8 (byteZ t y.snd)] ∧ List.length y.fst + [zByte (byteZ t y.snd)].length ≤ Go.Vc.maxLen ∧ inI64 (y.snd + (1 : Int)) ∧ V4 y ∧ NamI s0 t (y.fst ++ [zByte (byteZ t y.snd)]) (y.snd + (1 : Int)) ∧ ((List.length t : Int) - (y.snd + (1 : Int))).toNat < ((List.length t : Int) - y.snd).toNat))) ∧ (decide (y.snd < lenZ t) = false → K y)
theorem lab_len : ∀ t ∈ LSL, t.length ≤ 7 := by decide +kernel
theorem good_low : ∀ n : Fin 256, goodC (UInt8.ofNat n.val) = true → ¬ (65 ≤ n.val ∧ n.val ≤ 90) ∧ n.val ≠ 37 ∧ n.val ≠ 91 := by decide +kernel
theorem pre_snoc {y : Bs} (c : UInt8) (r : Bs) (hc : c.toNat ≠ 91) (h : preB y [91] = false) : preB (y ++ c :: r) [91] = false := by
  by_cases e : y = []
  · subst e
    show ((91 : UInt8) == c && true) = false
    rw [Bool.and_true, beq_eq_false_iff_ne]
    intro g; exact hc (by rw [← g]; rfl)
  · rw [pre91_app _ e]; exact h
theorem bodN_ok (s0 t : Bs) (ht : t ∈ LSL) (i : Int) (i0 : 0 ≤ i) (i6 : i ≤ 6) (sh : List Bool) (g : Bool) (V1 V2 V3 V4 K : Bs × Int → Prop) (hs0 : s0.length ≤ 1000) (v1 : ∀ y, V1 y) (v2 : ∀ y, V2 y) (v3 : ∀ y, V3 y) (v4 : ∀ y, V4 y)
    (hK : ∀ y : Bs × Int, NamI s0 t y.1 y.2 → y.2 = t.length → K y) : BodN s0 t i (sh.map .bool) g V1 V2 V3 V4 K := by
  unfold BodN
  rintro ⟨y, q⟩ hy
  have hy0 := hy
  obtain ⟨j, h1, h2, h3, h4, h5, h6⟩ := hy
  dsimp only at h1 h2 h3 h4 h5 h6 ⊢
  subst h1
  have h7 : t.length ≤ 7 := lab_len t ht
  have hml : Go.Vc.maxLen = 1099511627776 := rfl
  have e1 : (j : Int) + 1 = ((j + 1 : Nat) : Int) := by push_cast; rfl
  refine ⟨fun h => ?_, fun h => hK _ hy0 (by have := of_decide_eq_false h; unfold lenZ at this; dsimp only; omega)⟩
  have hj : j < t.length := by have := of_decide_eq_true h; unfold lenZ at this; omega
  obtain ⟨b, hb⟩ : ∃ b, t.getD j 0 = b := ⟨_, rfl⟩
  have hz : byteZ t (j : Int) = (b.toNat : Int) := by rw [← hb]; rfl
  have hg : goodC b = true := by rw [← hb]; exact List.all_eq_true.1 (lab_all t ht).1 _ (getD_in t j hj)
  have hgl := good_low ⟨b.toNat, b.toNat_lt⟩
  dsimp only at hgl
  rw [UInt8.ofNat_toNat] at hgl
  obtain ⟨g1, g2, g3⟩ := hgl hg
  have hb8 : b.toNat ≤ 255 := by have := b.toNat_lt; omega
  have hlb : lowB1 b = b := by apply UInt8.toNat_inj.1; rw [low_nat, if_neg g1]
  have htk : t.take (j + 1) = t.take j ++ [b] := by
    rw [List.take_add_one, ← hb, List.getD_eq_getElem?_getD, List.getElem?_eq_getElem hj]; rfl
  have hu : ∀ z : Int, 0 ≤ z ∧ z ≤ 255 → allU8 [.int .u8 z] := fun z hz => by simp [allU8]; exact hz
  have tell : ∀ c : UInt8, lowB1 c = b → c.toNat ≠ 37 → c.toNat ≠ 91 → NamI s0 t (y ++ [c]) ((j + 1 : Nat) : Int) := fun c hc h37 h91 =>
    ⟨j + 1, rfl, by omega, fun w hw => by have := (h3 w hw).snoc h37 hc; rw [List.append_assoc] at this; rw [htk]; exact this, fun h => pre_snoc c [] h91 (h4 h), fun _ => by simp, by rw [List.length_append]; show y.length + 1 ≤ _; omega⟩
  have tellX : ∀ c : UInt8, lowB1 c = b → NamI s0 t (y ++ hexS (c.toNat : Int)) ((j + 1 : Nat) : Int) := fun c hc =>
    ⟨j + 1, rfl, by omega, fun w hw => by have := (h3 w hw).hex hc; rw [List.append_assoc] at this; rw [htk]; exact this, fun h => pre_snoc 37 _ (by decide) (h4 h), fun _ => by simp [hexS], by rw [List.length_append]; show y.length + 3 ≤ _; omega⟩
  have hlen : lenZ (sh.map PV.bool) = (sh.length : Int) := by unfold lenZ; rw [List.length_map]
  have hpv : ∀ z : Int, 0 ≤ z → z < (sh.length : Int) → partV Tryd.prog (4 : Nat) (pvZ (sh.map PV.bool) z) (0 : Nat) = .bool (partV Tryd.prog (4 : Nat) (pvZ (sh.map PV.bool) z) (0 : Nat)).asBool := fun z z0 z1 => by
    have e : pvZ (sh.map PV.bool) z = .bool (sh.getD z.toNat false) := by
      unfold pvZ
      rw [List.getD_eq_getElem?_getD, List.getD_eq_getElem?_getD, List.getElem?_map, List.getElem?_eq_getElem (by omega)]; rfl
    rw [e, part_bool2]; rfl
  have hx3 : ∀ z, (hexS z).length = 3 := fun z => rfl
  rw [hz, e1, hlen]
  have cw : ∀ P : Prop, P → inI64 (5 * i) ∧ inI64 (5 * i + (j : Int)) ∧ (decide (5 * i + (j : Int) < (sh.length : Int)) = true → inI64 (5 * i)) ∧ (decide (5 * i + (j : Int) < (sh.length : Int)) = true → inI64 (5 * i + (j : Int))) ∧ (decide (5 * i + (j : Int) < (sh.length : Int)) = true → within (5 * i + (j : Int)) (sh.length : Int)) ∧ (decide (5 * i + (j : Int) < (sh.length : Int)) = true → partV Tryd.prog (4 : Nat) (pvZ (sh.map PV.bool) (5 * i + (j : Int))) (0 : Nat) = .bool (partV Tryd.prog (4 : Nat) (pvZ (sh.map PV.bool) (5 * i + (j : Int))) (0 : Nat)).asBool) ∧ P := fun P hP =>
    ⟨by unfold inI64; omega, by unfold inI64; omega, fun _ => by unfold inI64; omega, fun _ => by unfold inI64; omega, fun h => by have := of_decide_eq_true h; unfold within; omega, fun h => hpv _ (by omega) (of_decide_eq_true h), hP⟩
  refine ⟨by unfold within lenZ; omega, fun h8 => cw _ ⟨fun _ => ?_, fun _ => ?_⟩, fun h8 => cw _ ⟨fun _ => ?_, fun _ => ?_⟩⟩
  · have hup : 97 ≤ b.toNat ∧ b.toNat ≤ 122 := by
      cases e1 : decide ((97 : Int) ≤ (b.toNat : Int)) with
      | false => rw [e1] at h8; cases g <;> cases h8
      | true =>
        rw [e1] at h8
        have d1 := of_decide_eq_true e1
        cases g with
        | false => cases h8
        | true => have d2 := of_decide_eq_true (show decide ((b.toNat : Int) ≤ 122) = true from h8); omega
    have hc : (((zByte ((b.toNat : Int) - 32)).toNat : Nat) : Int) = (b.toNat : Int) - 32 := zB_nat (by omega) (by omega)
    have hcl : lowB1 (zByte ((b.toNat : Int) - 32)) = b := by apply UInt8.toNat_inj.1; rw [low_nat]; split <;> omega
    rw [IntWalk.u8_in _ (by omega)]
    refine ⟨⟨by omega, by omega⟩, by rw [hx3]; omega, by unfold inI64; omega, v1 _, ?_, by omega⟩
    rw [← hc]
    exact tellX _ hcl
  · have hup : 97 ≤ b.toNat ∧ b.toNat ≤ 122 := by
      cases e1 : decide ((97 : Int) ≤ (b.toNat : Int)) with
      | false => rw [e1] at h8; cases g <;> cases h8
      | true =>
        rw [e1] at h8
        have d1 := of_decide_eq_true e1
        cases g with
        | false => cases h8
        | true => have d2 := of_decide_eq_true (show decide ((b.toNat : Int) ≤ 122) = true from h8); omega
    have hc : (((zByte ((b.toNat : Int) - 32)).toNat : Nat) : Int) = (b.toNat : Int) - 32 := zB_nat (by omega) (by omega)
    have hcl : lowB1 (zByte ((b.toNat : Int) - 32)) = b := by apply UInt8.toNat_inj.1; rw [low_nat]; split <;> omega
    rw [IntWalk.u8_in _ (by omega)]
    exact ⟨hu _ (by omega), by show y.length + 1 ≤ _; omega, by unfold inI64; omega, v2 _, tell _ hcl (by omega) (by omega), by omega⟩
  · exact ⟨⟨by omega, by omega⟩, by rw [hx3]; omega, by unfold inI64; omega, v3 _, tellX _ hlb, by omega⟩
  · refine ⟨hu _ (by omega), by show y.length + 1 ≤ _; omega, by unfold inI64; omega, v4 _, ?_, by omega⟩
    rw [zB_of]
    exact tell _ hlb g2 g3

def X_names : Tbl := tblX [(11, ent_low), (8, ent_hparse), (12, ent_hexs), (7, ent_awake)]
def H_names (nl : Bool) (ns : List Int) (nl2 : Bool) (shp : List PV) (sh : List Bool) (g : Bool) : Loops := fun i => bif Nat.beq i 6 then some ⟨(Bs) × (Bs) × (Bool) × (Int), (fun s x => (((((((((((((s.put 8 (.str x.1)).put 9 (.str x.2.1)).put 10 (.bool x.2.2.1)).put 11 (.int .i64 x.2.2.2)).put 12 .undef).put 13 .undef).put 14 .undef).put 30 .undef).put 47 .undef).put 58 .undef).put 68 .undef).put 72 .undef).put 90 .undef)), (fun s => (s.str 8, s.str 9, s.bool 10, s.int 11)), (fun s x => let s := x.1; let w := x.2.1; let o := x.2.2.1; let i := x.2.2.2; NamO ns s w o i), (fun s x => let s := x.1; let w := x.2.1; let o := x.2.2.1; let i := x.2.2.2; ((ns.length : Int) - i).toNat), [12, 13, 14, 30, 47, 58, 68, 72, 90]⟩ else bif Nat.beq i 14 then some ⟨(Bs) × (Int), (fun s x => (((((((s.put 8 (.str x.1)).put 13 (.int .i64 x.2)).put 14 .undef).put 58 .undef).put 68 .undef).put 72 .undef).put 90 .undef)), (fun s => (s.str 8, s.int 13)), (fun s x => let y := x.1; let q := x.2; NamI (s.str 8) (s.str 12) y q), (fun s x => let y := x.1; let q := x.2; (((s.str 12).length : Int) - q).toNat), [14, 58, 68, 72, 90]⟩ else none
theorem X_names_ok : XOk Tryd.prog noT X_names := tblX_cons ent_low_ok (tblX_cons ent_hparse_ok (tblX_cons ent_hexs_ok (tblX_cons ent_awake_ok (tblX_nil))))
theorem vc_names (nl : Bool) (ns : List Int) (nl2 : Bool) (shp : List PV) (sh : List Bool) (g : Bool) (k : PV → Prop) : evF Tryd.prog X_names noT (H_names nl ns nl2 shp sh g) 1000 Tryd.f4 [.row nl (.ints .i64 ns) 0, .vec nl2 1 shp 0, .bool g] k = (
  ((bif decide (Int.ofNat ns.length < (1 : Int)) then true else decide ((6 : Int) < Int.ofNat ns.length)) = true → True ∧ k (PV.bool true)) ∧
 ((bif decide (Int.ofNat ns.length < (1 : Int)) then true else decide ((6 : Int) < Int.ofNat ns.length)) = false →
 VS.mk []
 [(nat_lit 0, PV.row nl (BRow.ints Go.IntKind.i64 ns) (0 : Nat)), (nat_lit 1, PV.vec nl2 (1 : Nat) shp (0 : Nat)),
 (nat_lit 2, PV.bool g), (nat_lit 6, PV.bool false),
 (nat_lit 7,
 PV.row false
 (BRow.strs
 [(ByteArray.mk #[(97 : UInt8)]).data.toList,
 (ByteArray.mk #[(101 : UInt8), (120 : UInt8), (97 : UInt8), (109 : UInt8), (112 : UInt8), (108 : UInt8), (101 : UInt8)]).data.toList,
 (ByteArray.mk #[(120 : UInt8), (45 : UInt8), (49 : UInt8)]).data.toList,
 (ByteArray.mk #[(120 : UInt8), (110 : UInt8), (45 : UInt8)]).data.toList,
 (ByteArray.mk #[(120 : UInt8), (110 : UInt8), (45 : UInt8), (45 : UInt8), (97 : UInt8)]).data.toList,
 (ByteArray.mk #[(111 : UInt8), (114 : UInt8), (103 : UInt8)]).data.toList, (ByteArray.mk #[(110 : UInt8), (48 : UInt8)]).data.toList,
 (ByteArray.mk #[(99 : UInt8), (45 : UInt8)]).data.toList, (ByteArray.mk #[(45 : UInt8)]).data.toList])
 (0 : Nat)),
 (nat_lit 8, PV.str (ByteArray.mk #[]).data.toList), (nat_lit 9, PV.str (ByteArray.mk #[]).data.toList),
 (nat_lit 10, PV.bool false), (nat_lit 11, PV.int Go.IntKind.i64 (0 : Int)), ((12 : Nat), PV.undef), ((13 : Nat), PV.undef),
 ((14 : Nat), PV.undef), (nat_lit 15, PV.undef), (nat_lit 16, PV.undef),
 (nat_lit 24, PV.bool (bif decide (Int.ofNat ns.length < (1 : Int)) then true else decide ((6 : Int) < Int.ofNat ns.length))),
 ((30 : Nat), PV.undef), ((47 : Nat), PV.undef), ((58 : Nat), PV.undef), ((72 : Nat), PV.undef),
 ((90 : Nat), PV.undef), (nat_lit 105, PV.undef)]
 [] =
 VS.mk []
 [(nat_lit 0, PV.row nl (BRow.ints Go.IntKind.i64 ns) (0 : Nat)), (nat_lit 1, PV.vec nl2 (1 : Nat) shp (0 : Nat)),
 (nat_lit 2, PV.bool g), (nat_lit 6, PV.bool false),
 (nat_lit 7,
 PV.row false
 (BRow.strs
 [(ByteArray.mk #[(97 : UInt8)]).data.toList,
 (ByteArray.mk #[(101 : UInt8), (120 : UInt8), (97 : UInt8), (109 : UInt8), (112 : UInt8), (108 : UInt8), (101 : UInt8)]).data.toList,
 (ByteArray.mk #[(120 : UInt8), (45 : UInt8), (49 : UInt8)]).data.toList,
 (ByteArray.mk #[(120 : UInt8), (110 : UInt8), (45 : UInt8)]).data.toList,
 (ByteArray.mk #[(120 : UInt8), (110 : UInt8), (45 : UInt8), (45 : UInt8), (97 : UInt8)]).data.toList,
 (ByteArray.mk #[(111 : UInt8), (114 : UInt8), (103 : UInt8)]).data.toList, (ByteArray.mk #[(110 : UInt8), (48 : UInt8)]).data.toList,
 (ByteArray.mk #[(99 : UInt8), (45 : UInt8)]).data.toList, (ByteArray.mk #[(45 : UInt8)]).data.toList])
 (0 : Nat)),
 ((8 : Nat), PV.str (ByteArray.mk #[]).data.toList), ((9 : Nat), PV.str (ByteArray.mk #[]).data.toList),
 ((10 : Nat), PV.bool false), ((11 : Nat), PV.int Go.IntKind.i64 (0 : Int)), ((12 : Nat), PV.undef), ((13 : Nat), PV.undef),
 ((14 : Nat), PV.undef), (nat_lit 15, PV.undef), (nat_lit 16, PV.undef),
 (nat_lit 24, PV.bool (bif decide (Int.ofNat ns.length < (1 : Int)) then true else decide ((6 : Int) < Int.ofNat ns.length))),
 ((30 : Nat), PV.undef), ((47 : Nat), PV.undef), ((58 : Nat), PV.undef), ((72 : Nat), PV.undef),
 ((90 : Nat), PV.undef), (nat_lit 105, PV.undef)]
 [] ∧
 NamO ns (ByteArray.mk #[]).data.toList (ByteArray.mk #[]).data.toList false (0 : Int) ∧
 ∀ (x : Bs × Bs × Bool × Int),
 NamO ns x.fst x.snd.fst x.snd.snd.fst x.snd.snd.snd →
 (decide (x.snd.snd.snd < Int.ofNat ns.length) = true →
 within x.snd.snd.snd (Int.ofNat ns.length) ∧
 ((-9223372036854775808 : Int) ≤ intZ ns x.snd.snd.snd ∧
 intZ ns x.snd.snd.snd ≤ (9223372036854775807 : Int) ∧ (1 : Int) ≤ (9 : Int) ∧ (9 : Int) ≤ (4611686018427387904 : Int)) ∧
 within (lowN (intZ ns x.snd.snd.snd) (9 : Int))
 (Int.ofNat
 [(ByteArray.mk #[(97 : UInt8)]).data.toList,
 (ByteArray.mk
 #[(101 : UInt8), (120 : UInt8), (97 : UInt8), (109 : UInt8), (112 : UInt8), (108 : UInt8), (101 : UInt8)]).data.toList,
 (ByteArray.mk #[(120 : UInt8), (45 : UInt8), (49 : UInt8)]).data.toList,
 (ByteArray.mk #[(120 : UInt8), (110 : UInt8), (45 : UInt8)]).data.toList,
 (ByteArray.mk #[(120 : UInt8), (110 : UInt8), (45 : UInt8), (45 : UInt8), (97 : UInt8)]).data.toList,
 (ByteArray.mk #[(111 : UInt8), (114 : UInt8), (103 : UInt8)]).data.toList,
 (ByteArray.mk #[(110 : UInt8), (48 : UInt8)]).data.toList, (ByteArray.mk #[(99 : UInt8), (45 : UInt8)]).data.toList,
 (ByteArray.mk #[(45 : UInt8)]).data.toList].length) ∧
 (decide ((0 : Int) < x.snd.snd.snd) = true →
 List.length x.fst + (ByteArray.mk #[(46 : UInt8)]).data.toList.length ≤ Go.Vc.maxLen ∧
 List.length x.snd.fst + (ByteArray.mk #[(46 : UInt8)]).data.toList.length ≤ Go.Vc.maxLen ∧
 List.length (x.snd.fst ++ (ByteArray.mk #[(46 : UInt8)]).data.toList) +
 List.length
 (strZ
 [(ByteArray.mk #[(97 : UInt8)]).data.toList,
 (ByteArray.mk
 #[(101 : UInt8), (120 : UInt8), (97 : UInt8), (109 : UInt8), (112 : UInt8), (108 : UInt8),
 (101 : UInt8)]).data.toList,
 (ByteArray.mk #[(120 : UInt8), (45 : UInt8), (49 : UInt8)]).data.toList,
 (ByteArray.mk #[(120 : UInt8), (110 : UInt8), (45 : UInt8)]).data.toList,
 (ByteArray.mk #[(120 : UInt8), (110 : UInt8), (45 : UInt8), (45 : UInt8), (97 : UInt8)]).data.toList,
 (ByteArray.mk #[(111 : UInt8), (114 : UInt8), (103 : UInt8)]).data.toList,
 (ByteArray.mk #[(110 : UInt8), (48 : UInt8)]).data.toList, (ByteArray.mk #[(99 : UInt8), (45 : UInt8)]).data.toList,
 (ByteArray.mk #[(45 : UInt8)]).data.toList]
 (lowN (intZ ns x.snd.snd.snd) (9 : Int))) ≤
 Go.Vc.maxLen ∧
 VS.mk []
 [(nat_lit 0, PV.row nl (BRow.ints Go.IntKind.i64 ns) (0 : Nat)),
 (nat_lit 1, PV.vec nl2 (1 : Nat) shp (0 : Nat)), (nat_lit 2, PV.bool g), (nat_lit 6, PV.bool false),
 (nat_lit 7,
 PV.row false
 (BRow.strs
 [(ByteArray.mk #[(97 : UInt8)]).data.toList,
 (ByteArray.mk
 #[(101 : UInt8), (120 : UInt8), (97 : UInt8), (109 : UInt8), (112 : UInt8), (108 : UInt8),
 (101 : UInt8)]).data.toList,
 (ByteArray.mk #[(120 : UInt8), (45 : UInt8), (49 : UInt8)]).data.toList,
 (ByteArray.mk #[(120 : UInt8), (110 : UInt8), (45 : UInt8)]).data.toList,
 (ByteArray.mk #[(120 : UInt8), (110 : UInt8), (45 : UInt8), (45 : UInt8), (97 : UInt8)]).data.toList,
 (ByteArray.mk #[(111 : UInt8), (114 : UInt8), (103 : UInt8)]).data.toList,
 (ByteArray.mk #[(110 : UInt8), (48 : UInt8)]).data.toList,
 (ByteArray.mk #[(99 : UInt8), (45 : UInt8)]).data.toList, (ByteArray.mk #[(45 : UInt8)]).data.toList])
 (0 : Nat)),
 ((8 : Nat), PV.str (x.fst ++ (ByteArray.mk #[(46 : UInt8)]).data.toList)),
 ((9 : Nat),
 PV.str
 (x.snd.fst ++ (ByteArray.mk #[(46 : UInt8)]).data.toList ++
 strZ
 [(ByteArray.mk #[(97 : UInt8)]).data.toList,
 (ByteArray.mk
 #[(101 : UInt8), (120 : UInt8), (97 : UInt8), (109 : UInt8), (112 : UInt8), (108 : UInt8),
 (101 : UInt8)]).data.toList,
 (ByteArray.mk #[(120 : UInt8), (45 : UInt8), (49 : UInt8)]).data.toList,
 (ByteArray.mk #[(120 : UInt8), (110 : UInt8), (45 : UInt8)]).data.toList,
 (ByteArray.mk #[(120 : UInt8), (110 : UInt8), (45 : UInt8), (45 : UInt8), (97 : UInt8)]).data.toList,
 (ByteArray.mk #[(111 : UInt8), (114 : UInt8), (103 : UInt8)]).data.toList,
 (ByteArray.mk #[(110 : UInt8), (48 : UInt8)]).data.toList,
 (ByteArray.mk #[(99 : UInt8), (45 : UInt8)]).data.toList, (ByteArray.mk #[(45 : UInt8)]).data.toList]
 (lowN (intZ ns x.snd.snd.snd) (9 : Int)))),
 ((10 : Nat),
 PV.bool
 (bif x.snd.snd.fst then true
 else
 decide
 (strZ
 [(ByteArray.mk #[(97 : UInt8)]).data.toList,
 (ByteArray.mk
 #[(101 : UInt8), (120 : UInt8), (97 : UInt8), (109 : UInt8), (112 : UInt8), (108 : UInt8),
 (101 : UInt8)]).data.toList,
 (ByteArray.mk #[(120 : UInt8), (45 : UInt8), (49 : UInt8)]).data.toList,
 (ByteArray.mk #[(120 : UInt8), (110 : UInt8), (45 : UInt8)]).data.toList,
 (ByteArray.mk #[(120 : UInt8), (110 : UInt8), (45 : UInt8), (45 : UInt8), (97 : UInt8)]).data.toList,
 (ByteArray.mk #[(111 : UInt8), (114 : UInt8), (103 : UInt8)]).data.toList,
 (ByteArray.mk #[(110 : UInt8), (48 : UInt8)]).data.toList,
 (ByteArray.mk #[(99 : UInt8), (45 : UInt8)]).data.toList, (ByteArray.mk #[(45 : UInt8)]).data.toList]
 (lowN (intZ ns x.snd.snd.snd) (9 : Int)) =
 (ByteArray.mk #[(120 : UInt8), (110 : UInt8), (45 : UInt8), (45 : UInt8), (97 : UInt8)]).data.toList))),
 ((11 : Nat), PV.int Go.IntKind.i64 x.snd.snd.snd),
 ((12 : Nat),
 PV.str
 (strZ
 [(ByteArray.mk #[(97 : UInt8)]).data.toList,
 (ByteArray.mk
 #[(101 : UInt8), (120 : UInt8), (97 : UInt8), (109 : UInt8), (112 : UInt8), (108 : UInt8),
 (101 : UInt8)]).data.toList,
 (ByteArray.mk #[(120 : UInt8), (45 : UInt8), (49 : UInt8)]).data.toList,
 (ByteArray.mk #[(120 : UInt8), (110 : UInt8), (45 : UInt8)]).data.toList,
 (ByteArray.mk #[(120 : UInt8), (110 : UInt8), (45 : UInt8), (45 : UInt8), (97 : UInt8)]).data.toList,
 (ByteArray.mk #[(111 : UInt8), (114 : UInt8), (103 : UInt8)]).data.toList,
 (ByteArray.mk #[(110 : UInt8), (48 : UInt8)]).data.toList,
 (ByteArray.mk #[(99 : UInt8), (45 : UInt8)]).data.toList, (ByteArray.mk #[(45 : UInt8)]).data.toList]
 (lowN (intZ ns x.snd.snd.snd) (9 : Int)))),
 ((13 : Nat), PV.int Go.IntKind.i64 (0 : Int)), ((14 : Nat), PV.undef), (nat_lit 15, PV.undef),
 (nat_lit 16, PV.undef),
 (nat_lit 24,
 PV.bool (bif decide (Int.ofNat ns.length < (1 : Int)) then true else decide ((6 : Int) < Int.ofNat ns.length))),
 ((30 : Nat), PV.bool (decide (x.snd.snd.snd < Int.ofNat ns.length))),
 ((47 : Nat), PV.bool (decide ((0 : Int) < x.snd.snd.snd))), ((58 : Nat), PV.undef),
 ((72 : Nat), PV.undef), ((90 : Nat), PV.undef), (nat_lit 105, PV.undef)]
 [] =
 VS.mk []
 [(nat_lit 0, PV.row nl (BRow.ints Go.IntKind.i64 ns) (0 : Nat)),
 (nat_lit 1, PV.vec nl2 (1 : Nat) shp (0 : Nat)), (nat_lit 2, PV.bool g), (nat_lit 6, PV.bool false),
 (nat_lit 7,
 PV.row false
 (BRow.strs
 [(ByteArray.mk #[(97 : UInt8)]).data.toList,
 (ByteArray.mk
 #[(101 : UInt8), (120 : UInt8), (97 : UInt8), (109 : UInt8), (112 : UInt8), (108 : UInt8),
 (101 : UInt8)]).data.toList,
 (ByteArray.mk #[(120 : UInt8), (45 : UInt8), (49 : UInt8)]).data.toList,
 (ByteArray.mk #[(120 : UInt8), (110 : UInt8), (45 : UInt8)]).data.toList,
 (ByteArray.mk #[(120 : UInt8), (110 : UInt8), (45 : UInt8), (45 : UInt8), (97 : UInt8)]).data.toList,
 (ByteArray.mk #[(111 : UInt8), (114 : UInt8), (103 : UInt8)]).data.toList,
 (ByteArray.mk #[(110 : UInt8), (48 : UInt8)]).data.toList,
 (ByteArray.mk #[(99 : UInt8), (45 : UInt8)]).data.toList, (ByteArray.mk #[(45 : UInt8)]).data.toList])
 (0 : Nat)),
 ((8 : Nat), PV.str (x.fst ++ (ByteArray.mk #[(46 : UInt8)]).data.toList)),
 ((9 : Nat),
 PV.str
 (x.snd.fst ++ (ByteArray.mk #[(46 : UInt8)]).data.toList ++
 strZ
 [(ByteArray.mk #[(97 : UInt8)]).data.toList,
 (ByteArray.mk
 #[(101 : UInt8), (120 : UInt8), (97 : UInt8), (109 : UInt8), (112 : UInt8), (108 : UInt8),
 (101 : UInt8)]).data.toList,
 (ByteArray.mk #[(120 : UInt8), (45 : UInt8), (49 : UInt8)]).data.toList,
 (ByteArray.mk #[(120 : UInt8), (110 : UInt8), (45 : UInt8)]).data.toList,
 (ByteArray.mk #[(120 : UInt8), (110 : UInt8), (45 : UInt8), (45 : UInt8), (97 : UInt8)]).data.toList,
 (ByteArray.mk #[(111 : UInt8), (114 : UInt8), (103 : UInt8)]).data.toList,
 (ByteArray.mk #[(110 : UInt8), (48 : UInt8)]).data.toList,
 (ByteArray.mk #[(99 : UInt8), (45 : UInt8)]).data.toList, (ByteArray.mk #[(45 : UInt8)]).data.toList]
 (lowN (intZ ns x.snd.snd.snd) (9 : Int)))),
 ((10 : Nat),
 PV.bool
 (bif x.snd.snd.fst then true
 else
 decide
 (strZ
 [(ByteArray.mk #[(97 : UInt8)]).data.toList,
 (ByteArray.mk
 #[(101 : UInt8), (120 : UInt8), (97 : UInt8), (109 : UInt8), (112 : UInt8), (108 : UInt8),
 (101 : UInt8)]).data.toList,
 (ByteArray.mk #[(120 : UInt8), (45 : UInt8), (49 : UInt8)]).data.toList,
 (ByteArray.mk #[(120 : UInt8), (110 : UInt8), (45 : UInt8)]).data.toList,
 (ByteArray.mk #[(120 : UInt8), (110 : UInt8), (45 : UInt8), (45 : UInt8), (97 : UInt8)]).data.toList,
 (ByteArray.mk #[(111 : UInt8), (114 : UInt8), (103 : UInt8)]).data.toList,
 (ByteArray.mk #[(110 : UInt8), (48 : UInt8)]).data.toList,
 (ByteArray.mk #[(99 : UInt8), (45 : UInt8)]).data.toList, (ByteArray.mk #[(45 : UInt8)]).data.toList]
 (lowN (intZ ns x.snd.snd.snd) (9 : Int)) =
 (ByteArray.mk #[(120 : UInt8), (110 : UInt8), (45 : UInt8), (45 : UInt8), (97 : UInt8)]).data.toList))),
 ((11 : Nat), PV.int Go.IntKind.i64 x.snd.snd.snd),
 ((12 : Nat),
 PV.str
 (strZ
 [(ByteArray.mk #[(97 : UInt8)]).data.toList,
 (ByteArray.mk
 #[(101 : UInt8), (120 : UInt8), (97 : UInt8), (109 : UInt8), (112 : UInt8), (108 : UInt8),
 (101 : UInt8)]).data.toList,
 (ByteArray.mk #[(120 : UInt8), (45 : UInt8), (49 : UInt8)]).data.toList,
 (ByteArray.mk #[(120 : UInt8), (110 : UInt8), (45 : UInt8)]).data.toList,
 (ByteArray.mk #[(120 : UInt8), (110 : UInt8), (45 : UInt8), (45 : UInt8), (97 : UInt8)]).data.toList,
 (ByteArray.mk #[(111 : UInt8), (114 : UInt8), (103 : UInt8)]).data.toList,
 (ByteArray.mk #[(110 : UInt8), (48 : UInt8)]).data.toList,
 (ByteArray.mk #[(99 : UInt8), (45 : UInt8)]).data.toList, (ByteArray.mk #[(45 : UInt8)]).data.toList]
 (lowN (intZ ns x.snd.snd.snd) (9 : Int)))),
 ((13 : Nat), PV.int Go.IntKind.i64 (0 : Int)), ((14 : Nat), PV.undef), (nat_lit 15, PV.undef),
 (nat_lit 16, PV.undef),
 (nat_lit 24,
 PV.bool (bif decide (Int.ofNat ns.length < (1 : Int)) then true else decide ((6 : Int) < Int.ofNat ns.length))),
 ((30 : Nat), PV.bool (decide (x.snd.snd.snd < Int.ofNat ns.length))),
 ((47 : Nat), PV.bool (decide ((0 : Int) < x.snd.snd.snd))), ((58 : Nat), PV.undef),
 ((72 : Nat), PV.undef), ((90 : Nat), PV.undef), (nat_lit 105, PV.undef)]
 [] ∧
 NamI (x.fst ++ (ByteArray.mk #[(46 : UInt8)]).data.toList)
 (strZ
 [(ByteArray.mk #[(97 : UInt8)]).data.toList,
 (ByteArray.mk
 #[(101 : UInt8), (120 : UInt8), (97 : UInt8), (109 : UInt8), (112 : UInt8), (108 : UInt8),
 (101 : UInt8)]).data.toList,
 (ByteArray.mk #[(120 : UInt8), (45 : UInt8), (49 : UInt8)]).data.toList,
 (ByteArray.mk #[(120 : UInt8), (110 : UInt8), (45 : UInt8)]).data.toList,
 (ByteArray.mk #[(120 : UInt8), (110 : UInt8), (45 : UInt8), (45 : UInt8), (97 : UInt8)]).data.toList,
 (ByteArray.mk #[(111 : UInt8), (114 : UInt8), (103 : UInt8)]).data.toList,
 (ByteArray.mk #[(110 : UInt8), (48 : UInt8)]).data.toList, (ByteArray.mk #[(99 : UInt8), (45 : UInt8)]).data.toList,
 (ByteArray.mk #[(45 : UInt8)]).data.toList]
 (lowN (intZ ns x.snd.snd.snd) (9 : Int)))
 (x.fst ++ (ByteArray.mk #[(46 : UInt8)]).data.toList) (0 : Int) ∧
 ∀ (x_1 : Bs × Int),
 NamI (x.fst ++ (ByteArray.mk #[(46 : UInt8)]).data.toList)
 (strZ
 [(ByteArray.mk #[(97 : UInt8)]).data.toList,
 (ByteArray.mk
 #[(101 : UInt8), (120 : UInt8), (97 : UInt8), (109 : UInt8), (112 : UInt8), (108 : UInt8),
 (101 : UInt8)]).data.toList,
 (ByteArray.mk #[(120 : UInt8), (45 : UInt8), (49 : UInt8)]).data.toList,
 (ByteArray.mk #[(120 : UInt8), (110 : UInt8), (45 : UInt8)]).data.toList,
 (ByteArray.mk #[(120 : UInt8), (110 : UInt8), (45 : UInt8), (45 : UInt8), (97 : UInt8)]).data.toList,
 (ByteArray.mk #[(111 : UInt8), (114 : UInt8), (103 : UInt8)]).data.toList,
 (ByteArray.mk #[(110 : UInt8), (48 : UInt8)]).data.toList,
 (ByteArray.mk #[(99 : UInt8), (45 : UInt8)]).data.toList, (ByteArray.mk #[(45 : UInt8)]).data.toList]
 (lowN (intZ ns x.snd.snd.snd) (9 : Int)))
 x_1.fst x_1.snd →
 (decide
 (x_1.snd <
 lenZ
 (strZ
 [(ByteArray.mk #[(97 : UInt8)]).data.toList,
 (ByteArray.mk
 #[(101 : UInt8), (120 : UInt8), (97 : UInt8), (109 : UInt8), (112 : UInt8), (108 : UInt8),
 (101 : UInt8)]).data.toList,
 (ByteArray.mk #[(120 : UInt8), (45 : UInt8), (49 : UInt8)]).data.toList,
 (ByteArray.mk #[(120 : UInt8), (110 : UInt8), (45 : UInt8)]).data.toList,
 (ByteArray.mk #[(120 : UInt8), (110 : UInt8), (45 : UInt8), (45 : UInt8), (97 : UInt8)]).data.toList,
 (ByteArray.mk #[(111 : UInt8), (114 : UInt8), (103 : UInt8)]).data.toList,
 (ByteArray.mk #[(110 : UInt8), (48 : UInt8)]).data.toList,
 (ByteArray.mk #[(99 : UInt8), (45 : UInt8)]).data.toList, (ByteArray.mk #[(45 : UInt8)]).data.toList]
 (lowN (intZ ns x.snd.snd.snd) (9 : Int)))) =
 true →
 within x_1.snd
 (lenZ
 (strZ
 [(ByteArray.mk #[(97 : UInt8)]).data.toList,
 (ByteArray.mk
 #[(101 : UInt8), (120 : UInt8), (97 : UInt8), (109 : UInt8), (112 : UInt8), (108 : UInt8),
 (101 : UInt8)]).data.toList,
 (ByteArray.mk #[(120 : UInt8), (45 : UInt8), (49 : UInt8)]).data.toList,
 (ByteArray.mk #[(120 : UInt8), (110 : UInt8), (45 : UInt8)]).data.toList,
 (ByteArray.mk #[(120 : UInt8), (110 : UInt8), (45 : UInt8), (45 : UInt8), (97 : UInt8)]).data.toList,
 (ByteArray.mk #[(111 : UInt8), (114 : UInt8), (103 : UInt8)]).data.toList,
 (ByteArray.mk #[(110 : UInt8), (48 : UInt8)]).data.toList,
 (ByteArray.mk #[(99 : UInt8), (45 : UInt8)]).data.toList, (ByteArray.mk #[(45 : UInt8)]).data.toList]
 (lowN (intZ ns x.snd.snd.snd) (9 : Int)))) ∧
 ((bif
 bif g then
 decide
 ((97 : Int) ≤
 byteZ
 (strZ
 [(ByteArray.mk #[(97 : UInt8)]).data.toList,
 (ByteArray.mk
 #[(101 : UInt8), (120 : UInt8), (97 : UInt8), (109 : UInt8), (112 : UInt8),
 (108 : UInt8), (101 : UInt8)]).data.toList,
 (ByteArray.mk #[(120 : UInt8), (45 : UInt8), (49 : UInt8)]).data.toList,
 (ByteArray.mk #[(120 : UInt8), (110 : UInt8), (45 : UInt8)]).data.toList,
 (ByteArray.mk
 #[(120 : UInt8), (110 : UInt8), (45 : UInt8), (45 : UInt8),
 (97 : UInt8)]).data.toList,
 (ByteArray.mk #[(111 : UInt8), (114 : UInt8), (103 : UInt8)]).data.toList,
 (ByteArray.mk #[(110 : UInt8), (48 : UInt8)]).data.toList,
 (ByteArray.mk #[(99 : UInt8), (45 : UInt8)]).data.toList,
 (ByteArray.mk #[(45 : UInt8)]).data.toList]
 (lowN (intZ ns x.snd.snd.snd) (9 : Int)))
 x_1.snd)
 else false then
 decide
 (byteZ
 (strZ
 [(ByteArray.mk #[(97 : UInt8)]).data.toList,
 (ByteArray.mk
 #[(101 : UInt8), (120 : UInt8), (97 : UInt8), (109 : UInt8), (112 : UInt8), (108 : UInt8),
 (101 : UInt8)]).data.toList,
 (ByteArray.mk #[(120 : UInt8), (45 : UInt8), (49 : UInt8)]).data.toList,
 (ByteArray.mk #[(120 : UInt8), (110 : UInt8), (45 : UInt8)]).data.toList,
 (ByteArray.mk
 #[(120 : UInt8), (110 : UInt8), (45 : UInt8), (45 : UInt8), (97 : UInt8)]).data.toList,
 (ByteArray.mk #[(111 : UInt8), (114 : UInt8), (103 : UInt8)]).data.toList,
 (ByteArray.mk #[(110 : UInt8), (48 : UInt8)]).data.toList,
 (ByteArray.mk #[(99 : UInt8), (45 : UInt8)]).data.toList,
 (ByteArray.mk #[(45 : UInt8)]).data.toList]
 (lowN (intZ ns x.snd.snd.snd) (9 : Int)))
 x_1.snd ≤
 (122 : Int))
 else false) =
 true →
 inI64 ((5 : Int) * x.snd.snd.snd) ∧
 inI64 ((5 : Int) * x.snd.snd.snd + x_1.snd) ∧
 (decide ((5 : Int) * x.snd.snd.snd + x_1.snd < lenZ shp) = true →
 inI64 ((5 : Int) * x.snd.snd.snd)) ∧
 (decide ((5 : Int) * x.snd.snd.snd + x_1.snd < lenZ shp) = true →
 inI64 ((5 : Int) * x.snd.snd.snd + x_1.snd)) ∧
 (decide ((5 : Int) * x.snd.snd.snd + x_1.snd < lenZ shp) = true →
 within ((5 : Int) * x.snd.snd.snd + x_1.snd) (lenZ shp)) ∧
 (decide ((5 : Int) * x.snd.snd.snd + x_1.snd < lenZ shp) = true →
 partV Go.Proofs.Tryd.prog (4 : Nat) (pvZ shp ((5 : Int) * x.snd.snd.snd + x_1.snd))
 (0 : Nat) =
 PV.bool
 (partV Go.Proofs.Tryd.prog (4 : Nat)
 (pvZ shp ((5 : Int) * x.snd.snd.snd + x_1.snd)) (0 : Nat)).asBool) ∧
 ((bif decide ((5 : Int) * x.snd.snd.snd + x_1.snd < lenZ shp) then
 (partV Go.Proofs.Tryd.prog (4 : Nat)
 (pvZ shp ((5 : Int) * x.snd.snd.snd + x_1.snd)) (0 : Nat)).asBool
 else false) =
 true →
 ((0 : Int) ≤
 Go.IntKind.u8.wrap
 (byteZ
 (strZ
 [(ByteArray.mk #[(97 : UInt8)]).data.toList,
 (ByteArray.mk
 #[(101 : UInt8), (120 : UInt8), (97 : UInt8), (109 : UInt8),
 (112 : UInt8), (108 : UInt8), (101 : UInt8)]).data.toList,
 (ByteArray.mk #[(120 : UInt8), (45 : UInt8), (49 : UInt8)]).data.toList,
 (ByteArray.mk #[(120 : UInt8), (110 : UInt8), (45 : UInt8)]).data.toList,
 (ByteArray.mk
 #[(120 : UInt8), (110 : UInt8), (45 : UInt8), (45 : UInt8),
 (97 : UInt8)]).data.toList,
 (ByteArray.mk #[(111 : UInt8), (114 : UInt8), (103 : UInt8)]).data.toList,
 (ByteArray.mk #[(110 : UInt8), (48 : UInt8)]).data.toList,
 (ByteArray.mk #[(99 : UInt8), (45 : UInt8)]).data.toList,
 (ByteArray.mk #[(45 : UInt8)]).data.toList]
 (lowN (intZ ns x.snd.snd.snd) (9 : Int)))
 x_1.snd -
 (32 : Int)) ∧
 Go.IntKind.u8.wrap
 (byteZ
 (strZ
 [(ByteArray.mk #[(97 : UInt8)]).data.toList,
 (ByteArray.mk
 #[(101 : UInt8), (120 : UInt8), (97 : UInt8), (109 : UInt8),
 (112 : UInt8), (108 : UInt8), (101 : UInt8)]).data.toList,
 (ByteArray.mk #[(120 : UInt8), (45 : UInt8), (49 : UInt8)]).data.toList,
 (ByteArray.mk #[(120 : UInt8), (110 : UInt8), (45 : UInt8)]).data.toList,
 (ByteArray.mk
 #[(120 : UInt8), (110 : UInt8), (45 : UInt8), (45 : UInt8),
 (97 : UInt8)]).data.toList,
 (ByteArray.mk #[(111 : UInt8), (114 : UInt8), (103 : UInt8)]).data.toList,
 (ByteArray.mk #[(110 : UInt8), (48 : UInt8)]).data.toList,
 (ByteArray.mk #[(99 : UInt8), (45 : UInt8)]).data.toList,
 (ByteArray.mk #[(45 : UInt8)]).data.toList]
 (lowN (intZ ns x.snd.snd.snd) (9 : Int)))
 x_1.snd -
 (32 : Int)) ≤
 (255 : Int)) ∧
 List.length x_1.fst +
 List.length
 (hexS
 (Go.IntKind.u8.wrap
 (byteZ
 (strZ
 [(ByteArray.mk #[(97 : UInt8)]).data.toList,
 (ByteArray.mk
 #[(101 : UInt8), (120 : UInt8), (97 : UInt8), (109 : UInt8),
 (112 : UInt8), (108 : UInt8), (101 : UInt8)]).data.toList,
 (ByteArray.mk #[(120 : UInt8), (45 : UInt8), (49 : UInt8)]).data.toList,
 (ByteArray.mk
 #[(120 : UInt8), (110 : UInt8), (45 : UInt8)]).data.toList,
 (ByteArray.mk
 #[(120 : UInt8), (110 : UInt8), (45 : UInt8), (45 : UInt8),
 (97 : UInt8)]).data.toList,
 (ByteArray.mk
 #[(111 : UInt8), (114 : UInt8), (103 : UInt8)]).data.toList,
 (ByteArray.mk #[(110 : UInt8), (48 : UInt8)]).data.toList,
 (ByteArray.mk #[(99 : UInt8), (45 : UInt8)]).data.toList,
 (ByteArray.mk #[(45 : UInt8)]).data.toList]
 (lowN (intZ ns x.snd.snd.snd)
 (9 : Int)))
 x_1.snd -
 (32 : Int)))) ≤
 Go.Vc.maxLen ∧
 inI64 (x_1.snd + (1 : Int)) ∧
 VS.mk []
 [(nat_lit 0, PV.row nl (BRow.ints Go.IntKind.i64 ns) (0 : Nat)),
 (nat_lit 1, PV.vec nl2 (1 : Nat) shp (0 : Nat)),
 (nat_lit 2, PV.bool g), (nat_lit 6, PV.bool false),
 (nat_lit 7,
 PV.row false
 (BRow.strs
 [(ByteArray.mk #[(97 : UInt8)]).data.toList,
 (ByteArray.mk
 #[(101 : UInt8), (120 : UInt8), (97 : UInt8), (109 : UInt8),
 (112 : UInt8), (108 : UInt8), (101 : UInt8)]).data.toList,
 (ByteArray.mk #[(120 : UInt8), (45 : UInt8), (49 : UInt8)]).data.toList,
 (ByteArray.mk
 #[(120 : UInt8), (110 : UInt8), (45 : UInt8)]).data.toList,
 (ByteArray.mk
 #[(120 : UInt8), (110 : UInt8), (45 : UInt8), (45 : UInt8),
 (97 : UInt8)]).data.toList,
 (ByteArray.mk
 #[(111 : UInt8), (114 : UInt8), (103 : UInt8)]).data.toList,
 (ByteArray.mk #[(110 : UInt8), (48 : UInt8)]).data.toList,
 (ByteArray.mk #[(99 : UInt8), (45 : UInt8)]).data.toList,
 (ByteArray.mk #[(45 : UInt8)]).data.toList])
 (0 : Nat)),
 ((8 : Nat),
 PV.str
 (x_1.fst ++
 hexS
 (Go.IntKind.u8.wrap
 (byteZ
 (strZ
 [(ByteArray.mk #[(97 : UInt8)]).data.toList,
 (ByteArray.mk
 #[(101 : UInt8), (120 : UInt8), (97 : UInt8),
 (109 : UInt8), (112 : UInt8), (108 : UInt8),
 (101 : UInt8)]).data.toList,
 (ByteArray.mk
 #[(120 : UInt8), (45 : UInt8),
 (49 : UInt8)]).data.toList,
 (ByteArray.mk
 #[(120 : UInt8), (110 : UInt8),
 (45 : UInt8)]).data.toList,
 (ByteArray.mk
 #[(120 : UInt8), (110 : UInt8), (45 : UInt8),
 (45 : UInt8), (97 : UInt8)]).data.toList,
 (ByteArray.mk
 #[(111 : UInt8), (114 : UInt8),
 (103 : UInt8)]).data.toList,
 (ByteArray.mk #[(110 : UInt8), (48 : UInt8)]).data.toList,
 (ByteArray.mk #[(99 : UInt8), (45 : UInt8)]).data.toList,
 (ByteArray.mk #[(45 : UInt8)]).data.toList]
 (lowN
 (intZ ns x.snd.snd.snd) (9 : Int)))
 x_1.snd -
 (32 : Int))))),
 ((9 : Nat),
 PV.str
 (x.snd.fst ++ (ByteArray.mk #[(46 : UInt8)]).data.toList ++
 strZ
 [(ByteArray.mk #[(97 : UInt8)]).data.toList,
 (ByteArray.mk
 #[(101 : UInt8), (120 : UInt8), (97 : UInt8), (109 : UInt8),
 (112 : UInt8), (108 : UInt8), (101 : UInt8)]).data.toList,
 (ByteArray.mk
 #[(120 : UInt8), (45 : UInt8), (49 : UInt8)]).data.toList,
 (ByteArray.mk
 #[(120 : UInt8), (110 : UInt8), (45 : UInt8)]).data.toList,
 (ByteArray.mk
 #[(120 : UInt8), (110 : UInt8), (45 : UInt8), (45 : UInt8),
 (97 : UInt8)]).data.toList,
 (ByteArray.mk
 #[(111 : UInt8), (114 : UInt8), (103 : UInt8)]).data.toList,
 (ByteArray.mk #[(110 : UInt8), (48 : UInt8)]).data.toList,
 (ByteArray.mk #[(99 : UInt8), (45 : UInt8)]).data.toList,
 (ByteArray.mk #[(45 : UInt8)]).data.toList]
 (lowN (intZ ns x.snd.snd.snd)
 (9 : Int)))),
 ((10 : Nat),
 PV.bool
 (bif x.snd.snd.fst then true
 else
 decide
 (strZ
 [(ByteArray.mk #[(97 : UInt8)]).data.toList,
 (ByteArray.mk
 #[(101 : UInt8), (120 : UInt8), (97 : UInt8), (109 : UInt8),
 (112 : UInt8), (108 : UInt8), (101 : UInt8)]).data.toList,
 (ByteArray.mk
 #[(120 : UInt8), (45 : UInt8), (49 : UInt8)]).data.toList,
 (ByteArray.mk
 #[(120 : UInt8), (110 : UInt8), (45 : UInt8)]).data.toList,
 (ByteArray.mk
 #[(120 : UInt8), (110 : UInt8), (45 : UInt8), (45 : UInt8),
 (97 : UInt8)]).data.toList,
 (ByteArray.mk
 #[(111 : UInt8), (114 : UInt8), (103 : UInt8)]).data.toList,
 (ByteArray.mk #[(110 : UInt8), (48 : UInt8)]).data.toList,
 (ByteArray.mk #[(99 : UInt8), (45 : UInt8)]).data.toList,
 (ByteArray.mk #[(45 : UInt8)]).data.toList]
 (lowN (intZ ns x.snd.snd.snd)
 (9 : Int)) =
 (ByteArray.mk
 #[(120 : UInt8), (110 : UInt8), (45 : UInt8), (45 : UInt8),
 (97 : UInt8)]).data.toList))),
 ((11 : Nat), PV.int Go.IntKind.i64 x.snd.snd.snd),
 ((12 : Nat),
 PV.str
 (strZ
 [(ByteArray.mk #[(97 : UInt8)]).data.toList,
 (ByteArray.mk
 #[(101 : UInt8), (120 : UInt8), (97 : UInt8), (109 : UInt8),
 (112 : UInt8), (108 : UInt8), (101 : UInt8)]).data.toList,
 (ByteArray.mk #[(120 : UInt8), (45 : UInt8), (49 : UInt8)]).data.toList,
 (ByteArray.mk
 #[(120 : UInt8), (110 : UInt8), (45 : UInt8)]).data.toList,
 (ByteArray.mk
 #[(120 : UInt8), (110 : UInt8), (45 : UInt8), (45 : UInt8),
 (97 : UInt8)]).data.toList,
 (ByteArray.mk
 #[(111 : UInt8), (114 : UInt8), (103 : UInt8)]).data.toList,
 (ByteArray.mk #[(110 : UInt8), (48 : UInt8)]).data.toList,
 (ByteArray.mk #[(99 : UInt8), (45 : UInt8)]).data.toList,
 (ByteArray.mk #[(45 : UInt8)]).data.toList]
 (lowN (intZ ns x.snd.snd.snd)
 (9 : Int)))),
 ((13 : Nat), PV.int Go.IntKind.i64 (x_1.snd + (1 : Int))),
 ((14 : Nat), PV.undef), (nat_lit 15, PV.undef),
 (nat_lit 16, PV.undef),
 (nat_lit 24,
 PV.bool
 (bif decide (Int.ofNat ns.length < (1 : Int)) then true
 else decide ((6 : Int) < Int.ofNat ns.length))),
 ((30 : Nat), PV.bool (decide (x.snd.snd.snd < Int.ofNat ns.length))),
 ((47 : Nat), PV.bool (decide ((0 : Int) < x.snd.snd.snd))),
 ((58 : Nat), PV.undef), ((72 : Nat), PV.undef),
 ((90 : Nat), PV.undef), (nat_lit 105, PV.undef)]
 [] =
 VS.mk []
 [(nat_lit 0, PV.row nl (BRow.ints Go.IntKind.i64 ns) (0 : Nat)),
 (nat_lit 1, PV.vec nl2 (1 : Nat) shp (0 : Nat)),
 (nat_lit 2, PV.bool g), (nat_lit 6, PV.bool false),
 (nat_lit 7,
 PV.row false
 (BRow.strs
 [(ByteArray.mk #[(97 : UInt8)]).data.toList,
 (ByteArray.mk
 #[(101 : UInt8), (120 : UInt8), (97 : UInt8), (109 : UInt8),
 (112 : UInt8), (108 : UInt8), (101 : UInt8)]).data.toList,
 (ByteArray.mk #[(120 : UInt8), (45 : UInt8), (49 : UInt8)]).data.toList,
 (ByteArray.mk
 #[(120 : UInt8), (110 : UInt8), (45 : UInt8)]).data.toList,
 (ByteArray.mk
 #[(120 : UInt8), (110 : UInt8), (45 : UInt8), (45 : UInt8),
 (97 : UInt8)]).data.toList,
 (ByteArray.mk
 #[(111 : UInt8), (114 : UInt8), (103 : UInt8)]).data.toList,
 (ByteArray.mk #[(110 : UInt8), (48 : UInt8)]).data.toList,
 (ByteArray.mk #[(99 : UInt8), (45 : UInt8)]).data.toList,
 (ByteArray.mk #[(45 : UInt8)]).data.toList])
 (0 : Nat)),
 ((8 : Nat),
 PV.str
 (x_1.fst ++
 hexS
 (Go.IntKind.u8.wrap
 (byteZ
 (strZ
 [(ByteArray.mk #[(97 : UInt8)]).data.toList,
 (ByteArray.mk
 #[(101 : UInt8), (120 : UInt8), (97 : UInt8),
 (109 : UInt8), (112 : UInt8), (108 : UInt8),
 (101 : UInt8)]).data.toList,
 (ByteArray.mk
 #[(120 : UInt8), (45 : UInt8),
 (49 : UInt8)]).data.toList,
 (ByteArray.mk
 #[(120 : UInt8), (110 : UInt8),
 (45 : UInt8)]).data.toList,
 (ByteArray.mk
 #[(120 : UInt8), (110 : UInt8), (45 : UInt8),
 (45 : UInt8), (97 : UInt8)]).data.toList,
 (ByteArray.mk
 #[(111 : UInt8), (114 : UInt8),
 (103 : UInt8)]).data.toList,
 (ByteArray.mk #[(110 : UInt8), (48 : UInt8)]).data.toList,
 (ByteArray.mk #[(99 : UInt8), (45 : UInt8)]).data.toList,
 (ByteArray.mk #[(45 : UInt8)]).data.toList]
 (lowN
 (intZ ns x.snd.snd.snd) (9 : Int)))
 x_1.snd -
 (32 : Int))))),
 ((9 : Nat),
 PV.str
 (x.snd.fst ++ (ByteArray.mk #[(46 : UInt8)]).data.toList ++
 strZ
 [(ByteArray.mk #[(97 : UInt8)]).data.toList,
 (ByteArray.mk
 #[(101 : UInt8), (120 : UInt8), (97 : UInt8), (109 : UInt8),
 (112 : UInt8), (108 : UInt8), (101 : UInt8)]).data.toList,
 (ByteArray.mk
 #[(120 : UInt8), (45 : UInt8), (49 : UInt8)]).data.toList,
 (ByteArray.mk
 #[(120 : UInt8), (110 : UInt8), (45 : UInt8)]).data.toList,
 (ByteArray.mk
 #[(120 : UInt8), (110 : UInt8), (45 : UInt8), (45 : UInt8),
 (97 : UInt8)]).data.toList,
 (ByteArray.mk
 #[(111 : UInt8), (114 : UInt8), (103 : UInt8)]).data.toList,
 (ByteArray.mk #[(110 : UInt8), (48 : UInt8)]).data.toList,
 (ByteArray.mk #[(99 : UInt8), (45 : UInt8)]).data.toList,
 (ByteArray.mk #[(45 : UInt8)]).data.toList]
 (lowN (intZ ns x.snd.snd.snd)
 (9 : Int)))),
 ((10 : Nat),
 PV.bool
 (bif x.snd.snd.fst then true
 else
 decide
 (strZ
 [(ByteArray.mk #[(97 : UInt8)]).data.toList,
 (ByteArray.mk
 #[(101 : UInt8), (120 : UInt8), (97 : UInt8), (109 : UInt8),
 (112 : UInt8), (108 : UInt8), (101 : UInt8)]).data.toList,
 (ByteArray.mk
 #[(120 : UInt8), (45 : UInt8), (49 : UInt8)]).data.toList,
 (ByteArray.mk
 #[(120 : UInt8), (110 : UInt8), (45 : UInt8)]).data.toList,
 (ByteArray.mk
 #[(120 : UInt8), (110 : UInt8), (45 : UInt8), (45 : UInt8),
 (97 : UInt8)]).data.toList,
 (ByteArray.mk
 #[(111 : UInt8), (114 : UInt8), (103 : UInt8)]).data.toList,
 (ByteArray.mk #[(110 : UInt8), (48 : UInt8)]).data.toList,
 (ByteArray.mk #[(99 : UInt8), (45 : UInt8)]).data.toList,
 (ByteArray.mk #[(45 : UInt8)]).data.toList]
 (lowN (intZ ns x.snd.snd.snd)
 (9 : Int)) =
 (ByteArray.mk
 #[(120 : UInt8), (110 : UInt8), (45 : UInt8), (45 : UInt8),
 (97 : UInt8)]).data.toList))),
 ((11 : Nat), PV.int Go.IntKind.i64 x.snd.snd.snd),
 ((12 : Nat),
 PV.str
 (strZ
 [(ByteArray.mk #[(97 : UInt8)]).data.toList,
 (ByteArray.mk
 #[(101 : UInt8), (120 : UInt8), (97 : UInt8), (109 : UInt8),
 (112 : UInt8), (108 : UInt8), (101 : UInt8)]).data.toList,
 (ByteArray.mk #[(120 : UInt8), (45 : UInt8), (49 : UInt8)]).data.toList,
 (ByteArray.mk
 #[(120 : UInt8), (110 : UInt8), (45 : UInt8)]).data.toList,
 (ByteArray.mk
 #[(120 : UInt8), (110 : UInt8), (45 : UInt8), (45 : UInt8),
 (97 : UInt8)]).data.toList,
 (ByteArray.mk
 #[(111 : UInt8), (114 : UInt8), (103 : UInt8)]).data.toList,
 (ByteArray.mk #[(110 : UInt8), (48 : UInt8)]).data.toList,
 (ByteArray.mk #[(99 : UInt8), (45 : UInt8)]).data.toList,
 (ByteArray.mk #[(45 : UInt8)]).data.toList]
 (lowN (intZ ns x.snd.snd.snd)
 (9 : Int)))),
 ((13 : Nat), PV.int Go.IntKind.i64 (x_1.snd + (1 : Int))),
 ((14 : Nat), PV.undef), (nat_lit 15, PV.undef),
 (nat_lit 16, PV.undef),
 (nat_lit 24,
 PV.bool
 (bif decide (Int.ofNat ns.length < (1 : Int)) then true
 else decide ((6 : Int) < Int.ofNat ns.length))),
 ((30 : Nat), PV.bool (decide (x.snd.snd.snd < Int.ofNat ns.length))),
 ((47 : Nat), PV.bool (decide ((0 : Int) < x.snd.snd.snd))),
 ((58 : Nat), PV.undef), ((72 : Nat), PV.undef),
 ((90 : Nat), PV.undef), (nat_lit 105, PV.undef)]
 [] ∧
 NamI
 (x.fst ++ (ByteArray.mk #[(46 : UInt8)]).data.toList)
 (strZ
 [(ByteArray.mk #[(97 : UInt8)]).data.toList,
 (ByteArray.mk
 #[(101 : UInt8), (120 : UInt8), (97 : UInt8), (109 : UInt8),
 (112 : UInt8), (108 : UInt8), (101 : UInt8)]).data.toList,
 (ByteArray.mk #[(120 : UInt8), (45 : UInt8), (49 : UInt8)]).data.toList,
 (ByteArray.mk #[(120 : UInt8), (110 : UInt8), (45 : UInt8)]).data.toList,
 (ByteArray.mk
 #[(120 : UInt8), (110 : UInt8), (45 : UInt8), (45 : UInt8),
 (97 : UInt8)]).data.toList,
 (ByteArray.mk #[(111 : UInt8), (114 : UInt8), (103 : UInt8)]).data.toList,
 (ByteArray.mk #[(110 : UInt8), (48 : UInt8)]).data.toList,
 (ByteArray.mk #[(99 : UInt8), (45 : UInt8)]).data.toList,
 (ByteArray.mk #[(45 : UInt8)]).data.toList]
 (lowN (intZ ns x.snd.snd.snd) (9 : Int)))
 (x_1.fst ++
 hexS
 (Go.IntKind.u8.wrap
 (byteZ
 (strZ
 [(ByteArray.mk #[(97 : UInt8)]).data.toList,
 (ByteArray.mk
 #[(101 : UInt8), (120 : UInt8), (97 : UInt8), (109 : UInt8),
 (112 : UInt8), (108 : UInt8), (101 : UInt8)]).data.toList,
 (ByteArray.mk
 #[(120 : UInt8), (45 : UInt8), (49 : UInt8)]).data.toList,
 (ByteArray.mk
 #[(120 : UInt8), (110 : UInt8), (45 : UInt8)]).data.toList,
 (ByteArray.mk
 #[(120 : UInt8), (110 : UInt8), (45 : UInt8), (45 : UInt8),
 (97 : UInt8)]).data.toList,
 (ByteArray.mk
 #[(111 : UInt8), (114 : UInt8), (103 : UInt8)]).data.toList,
 (ByteArray.mk #[(110 : UInt8), (48 : UInt8)]).data.toList,
 (ByteArray.mk #[(99 : UInt8), (45 : UInt8)]).data.toList,
 (ByteArray.mk #[(45 : UInt8)]).data.toList]
 (lowN (intZ ns x.snd.snd.snd)
 (9 : Int)))
 x_1.snd -
 (32 : Int))))
 (x_1.snd + (1 : Int)) ∧
 (↑(List.length
 (strZ
 [(ByteArray.mk #[(97 : UInt8)]).data.toList,
 (ByteArray.mk
 #[(101 : UInt8), (120 : UInt8), (97 : UInt8), (109 : UInt8),
 (112 : UInt8), (108 : UInt8), (101 : UInt8)]).data.toList,
 (ByteArray.mk
 #[(120 : UInt8), (45 : UInt8), (49 : UInt8)]).data.toList,
 (ByteArray.mk
 #[(120 : UInt8), (110 : UInt8), (45 : UInt8)]).data.toList,
 (ByteArray.mk
 #[(120 : UInt8), (110 : UInt8), (45 : UInt8), (45 : UInt8),
 (97 : UInt8)]).data.toList,
 (ByteArray.mk
 #[(111 : UInt8), (114 : UInt8), (103 : UInt8)]).data.toList,
 (ByteArray.mk #[(110 : UInt8), (48 : UInt8)]).data.toList,
 (ByteArray.mk #[(99 : UInt8), (45 : UInt8)]).data.toList,
 (ByteArray.mk #[(45 : UInt8)]).data.toList]
 (lowN (intZ ns x.snd.snd.snd)
 (9 : Int)))) -
 (x_1.snd + (1 : Int))).toNat <
 (↑(List.length
 (strZ
 [(ByteArray.mk #[(97 : UInt8)]).data.toList,
 (ByteArray.mk
 #[(101 : UInt8), (120 : UInt8), (97 : UInt8), (109 : UInt8),
 (112 : UInt8), (108 : UInt8), (101 : UInt8)]).data.toList,
 (ByteArray.mk
 #[(120 : UInt8), (45 : UInt8), (49 : UInt8)]).data.toList,
 (ByteArray.mk
 #[(120 : UInt8), (110 : UInt8), (45 : UInt8)]).data.toList,
 (ByteArray.mk
 #[(120 : UInt8), (110 : UInt8), (45 : UInt8), (45 : UInt8),
 (97 : UInt8)]).data.toList,
 (ByteArray.mk
 #[(111 : UInt8), (114 : UInt8), (103 : UInt8)]).data.toList,
 (ByteArray.mk #[(110 : UInt8), (48 : UInt8)]).data.toList,
 (ByteArray.mk #[(99 : UInt8), (45 : UInt8)]).data.toList,
 (ByteArray.mk #[(45 : UInt8)]).data.toList]
 (lowN (intZ ns x.snd.snd.snd)
 (9 : Int)))) -
 x_1.snd).toNat) ∧
 ((bif decide ((5 : Int) * x.snd.snd.snd + x_1.snd < lenZ shp) then
 (partV Go.Proofs.Tryd.prog (4 : Nat)
 (pvZ shp ((5 : Int) * x.snd.snd.snd + x_1.snd)) (0 : Nat)).asBool
 else false) =
 false →
 allU8
 [PV.int Go.IntKind.u8
 (Go.IntKind.u8.wrap
 (byteZ
 (strZ
 [(ByteArray.mk #[(97 : UInt8)]).data.toList,
 (ByteArray.mk
 #[(101 : UInt8), (120 : UInt8), (97 : UInt8), (109 : UInt8),
 (112 : UInt8), (108 : UInt8), (101 : UInt8)]).data.toList,
 (ByteArray.mk #[(120 : UInt8), (45 : UInt8), (49 : UInt8)]).data.toList,
 (ByteArray.mk #[(120 : UInt8), (110 : UInt8), (45 : UInt8)]).data.toList,
 (ByteArray.mk
 #[(120 : UInt8), (110 : UInt8), (45 : UInt8), (45 : UInt8),
 (97 : UInt8)]).data.toList,
 (ByteArray.mk #[(111 : UInt8), (114 : UInt8), (103 : UInt8)]).data.toList,
 (ByteArray.mk #[(110 : UInt8), (48 : UInt8)]).data.toList,
 (ByteArray.mk #[(99 : UInt8), (45 : UInt8)]).data.toList,
 (ByteArray.mk #[(45 : UInt8)]).data.toList]
 (lowN (intZ ns x.snd.snd.snd) (9 : Int)))
 x_1.snd -
 (32 : Int)))] ∧
 List.length x_1.fst +
 [zByte
 (Go.IntKind.u8.wrap
 (byteZ
 (strZ
 [(ByteArray.mk #[(97 : UInt8)]).data.toList,
 (ByteArray.mk
 #[(101 : UInt8), (120 : UInt8), (97 : UInt8), (109 : UInt8),
 (112 : UInt8), (108 : UInt8), (101 : UInt8)]).data.toList,
 (ByteArray.mk
 #[(120 : UInt8), (45 : UInt8), (49 : UInt8)]).data.toList,
 (ByteArray.mk
 #[(120 : UInt8), (110 : UInt8), (45 : UInt8)]).data.toList,
 (ByteArray.mk
 #[(120 : UInt8), (110 : UInt8), (45 : UInt8), (45 : UInt8),
 (97 : UInt8)]).data.toList,
 (ByteArray.mk
 #[(111 : UInt8), (114 : UInt8), (103 : UInt8)]).data.toList,
 (ByteArray.mk #[(110 : UInt8), (48 : UInt8)]).data.toList,
 (ByteArray.mk #[(99 : UInt8), (45 : UInt8)]).data.toList,
 (ByteArray.mk #[(45 : UInt8)]).data.toList]
 (lowN (intZ ns x.snd.snd.snd)
 (9 : Int)))
 x_1.snd -
 (32 : Int)))].length ≤
 Go.Vc.maxLen ∧
 inI64 (x_1.snd + (1 : Int)) ∧
 VS.mk []
 [(nat_lit 0, PV.row nl (BRow.ints Go.IntKind.i64 ns) (0 : Nat)),
 (nat_lit 1, PV.vec nl2 (1 : Nat) shp (0 : Nat)),
 (nat_lit 2, PV.bool g), (nat_lit 6, PV.bool false),
 (nat_lit 7,
 PV.row false
 (BRow.strs
 [(ByteArray.mk #[(97 : UInt8)]).data.toList,
 (ByteArray.mk
 #[(101 : UInt8), (120 : UInt8), (97 : UInt8), (109 : UInt8),
 (112 : UInt8), (108 : UInt8), (101 : UInt8)]).data.toList,
 (ByteArray.mk #[(120 : UInt8), (45 : UInt8), (49 : UInt8)]).data.toList,
 (ByteArray.mk
 #[(120 : UInt8), (110 : UInt8), (45 : UInt8)]).data.toList,
 (ByteArray.mk
 #[(120 : UInt8), (110 : UInt8), (45 : UInt8), (45 : UInt8),
 (97 : UInt8)]).data.toList,
 (ByteArray.mk
 #[(111 : UInt8), (114 : UInt8), (103 : UInt8)]).data.toList,
 (ByteArray.mk #[(110 : UInt8), (48 : UInt8)]).data.toList,
 (ByteArray.mk #[(99 : UInt8), (45 : UInt8)]).data.toList,
 (ByteArray.mk #[(45 : UInt8)]).data.toList])
 (0 : Nat)),
 ((8 : Nat),
 PV.str
 (x_1.fst ++
 [zByte
 (Go.IntKind.u8.wrap
 (byteZ
 (strZ
 [(ByteArray.mk #[(97 : UInt8)]).data.toList,
 (ByteArray.mk
 #[(101 : UInt8), (120 : UInt8), (97 : UInt8),
 (109 : UInt8), (112 : UInt8), (108 : UInt8),
 (101 : UInt8)]).data.toList,
 (ByteArray.mk
 #[(120 : UInt8), (45 : UInt8),
 (49 : UInt8)]).data.toList,
 (ByteArray.mk
 #[(120 : UInt8), (110 : UInt8),
 (45 : UInt8)]).data.toList,
 (ByteArray.mk
 #[(120 : UInt8), (110 : UInt8), (45 : UInt8),
 (45 : UInt8), (97 : UInt8)]).data.toList,
 (ByteArray.mk
 #[(111 : UInt8), (114 : UInt8),
 (103 : UInt8)]).data.toList,
 (ByteArray.mk #[(110 : UInt8), (48 : UInt8)]).data.toList,
 (ByteArray.mk #[(99 : UInt8), (45 : UInt8)]).data.toList,
 (ByteArray.mk #[(45 : UInt8)]).data.toList]
 (lowN
 (intZ ns x.snd.snd.snd) (9 : Int)))
 x_1.snd -
 (32 : Int)))])),
 ((9 : Nat),
 PV.str
 (x.snd.fst ++ (ByteArray.mk #[(46 : UInt8)]).data.toList ++
 strZ
 [(ByteArray.mk #[(97 : UInt8)]).data.toList,
 (ByteArray.mk
 #[(101 : UInt8), (120 : UInt8), (97 : UInt8), (109 : UInt8),
 (112 : UInt8), (108 : UInt8), (101 : UInt8)]).data.toList,
 (ByteArray.mk
 #[(120 : UInt8), (45 : UInt8), (49 : UInt8)]).data.toList,
 (ByteArray.mk
 #[(120 : UInt8), (110 : UInt8), (45 : UInt8)]).data.toList,
 (ByteArray.mk
 #[(120 : UInt8), (110 : UInt8), (45 : UInt8), (45 : UInt8),
 (97 : UInt8)]).data.toList,
 (ByteArray.mk
 #[(111 : UInt8), (114 : UInt8), (103 : UInt8)]).data.toList,
 (ByteArray.mk #[(110 : UInt8), (48 : UInt8)]).data.toList,
 (ByteArray.mk #[(99 : UInt8), (45 : UInt8)]).data.toList,
 (ByteArray.mk #[(45 : UInt8)]).data.toList]
 (lowN (intZ ns x.snd.snd.snd)
 (9 : Int)))),
 ((10 : Nat),
 PV.bool
 (bif x.snd.snd.fst then true
 else
 decide
 (strZ
 [(ByteArray.mk #[(97 : UInt8)]).data.toList,
 (ByteArray.mk
 #[(101 : UInt8), (120 : UInt8), (97 : UInt8), (109 : UInt8),
 (112 : UInt8), (108 : UInt8), (101 : UInt8)]).data.toList,
 (ByteArray.mk
 #[(120 : UInt8), (45 : UInt8), (49 : UInt8)]).data.toList,
 (ByteArray.mk
 #[(120 : UInt8), (110 : UInt8), (45 : UInt8)]).data.toList,
 (ByteArray.mk
 #[(120 : UInt8), (110 : UInt8), (45 : UInt8), (45 : UInt8),
 (97 : UInt8)]).data.toList,
 (ByteArray.mk
 #[(111 : UInt8), (114 : UInt8), (103 : UInt8)]).data.toList,
 (ByteArray.mk #[(110 : UInt8), (48 : UInt8)]).data.toList,
 (ByteArray.mk #[(99 : UInt8), (45 : UInt8)]).data.toList,
 (ByteArray.mk #[(45 : UInt8)]).data.toList]
 (lowN (intZ ns x.snd.snd.snd)
 (9 : Int)) =
 (ByteArray.mk
 #[(120 : UInt8), (110 : UInt8), (45 : UInt8), (45 : UInt8),
 (97 : UInt8)]).data.toList))),
 ((11 : Nat), PV.int Go.IntKind.i64 x.snd.snd.snd),
 ((12 : Nat),
 PV.str
 (strZ
 [(ByteArray.mk #[(97 : UInt8)]).data.toList,
 (ByteArray.mk
 #[(101 : UInt8), (120 : UInt8), (97 : UInt8), (109 : UInt8),
 (112 : UInt8), (108 : UInt8), (101 : UInt8)]).data.toList,
 (ByteArray.mk #[(120 : UInt8), (45 : UInt8), (49 : UInt8)]).data.toList,
 (ByteArray.mk
 #[(120 : UInt8), (110 : UInt8), (45 : UInt8)]).data.toList,
 (ByteArray.mk
 #[(120 : UInt8), (110 : UInt8), (45 : UInt8), (45 : UInt8),
 (97 : UInt8)]).data.toList,
 (ByteArray.mk
 #[(111 : UInt8), (114 : UInt8), (103 : UInt8)]).data.toList,
 (ByteArray.mk #[(110 : UInt8), (48 : UInt8)]).data.toList,
 (ByteArray.mk #[(99 : UInt8), (45 : UInt8)]).data.toList,
 (ByteArray.mk #[(45 : UInt8)]).data.toList]
 (lowN (intZ ns x.snd.snd.snd)
 (9 : Int)))),
 ((13 : Nat), PV.int Go.IntKind.i64 (x_1.snd + (1 : Int))),
 ((14 : Nat), PV.undef), (nat_lit 15, PV.undef),
 (nat_lit 16, PV.undef),
 (nat_lit 24,
 PV.bool
 (bif decide (Int.ofNat ns.length < (1 : Int)) then true
 else decide ((6 : Int) < Int.ofNat ns.length))),
 ((30 : Nat), PV.bool (decide (x.snd.snd.snd < Int.ofNat ns.length))),
 ((47 : Nat), PV.bool (decide ((0 : Int) < x.snd.snd.snd))),
 ((58 : Nat), PV.undef), ((72 : Nat), PV.undef),
 ((90 : Nat), PV.undef), (nat_lit 105, PV.undef)]
 [] =
 VS.mk []
 [(nat_lit 0, PV.row nl (BRow.ints Go.IntKind.i64 ns) (0 : Nat)),
 (nat_lit 1, PV.vec nl2 (1 : Nat) shp (0 : Nat)),
 (nat_lit 2, PV.bool g), (nat_lit 6, PV.bool false),
 (nat_lit 7,
 PV.row false
 (BRow.strs
 [(ByteArray.mk #[(97 : UInt8)]).data.toList,
 (ByteArray.mk
 #[(101 : UInt8), (120 : UInt8), (97 : UInt8), (109 : UInt8),
 (112 : UInt8), (108 : UInt8), (101 : UInt8)]).data.toList,
 (ByteArray.mk #[(120 : UInt8), (45 : UInt8), (49 : UInt8)]).data.toList,
 (ByteArray.mk
 #[(120 : UInt8), (110 : UInt8), (45 : UInt8)]).data.toList,
 (ByteArray.mk
 #[(120 : UInt8), (110 : UInt8), (45 : UInt8), (45 : UInt8),
 (97 : UInt8)]).data.toList,
 (ByteArray.mk
 #[(111 : UInt8), (114 : UInt8), (103 : UInt8)]).data.toList,
 (ByteArray.mk #[(110 : UInt8), (48 : UInt8)]).data.toList,
 (ByteArray.mk #[(99 : UInt8), (45 : UInt8)]).data.toList,
 (ByteArray.mk #[(45 : UInt8)]).data.toList])
 (0 : Nat)),
 ((8 : Nat),
 PV.str
 (x_1.fst ++
 [zByte
 (Go.IntKind.u8.wrap
 (byteZ
 (strZ
 [(ByteArray.mk #[(97 : UInt8)]).data.toList,
 (ByteArray.mk
 #[(101 : UInt8), (120 : UInt8), (97 : UInt8),
 (109 : UInt8), (112 : UInt8), (108 : UInt8),
 (101 : UInt8)]).data.toList,
 (ByteArray.mk
 #[(120 : UInt8), (45 : UInt8),
 (49 : UInt8)]).data.toList,
 (ByteArray.mk
 #[(120 : UInt8), (110 : UInt8),
 (45 : UInt8)]).data.toList,
 (ByteArray.mk
 #[(120 : UInt8), (110 : UInt8), (45 : UInt8),
 (45 : UInt8), (97 : UInt8)]).data.toList,
 (ByteArray.mk
 #[(111 : UInt8), (114 : UInt8),
 (103 : UInt8)]).data.toList,
 (ByteArray.mk #[(110 : UInt8), (48 : UInt8)]).data.toList,
 (ByteArray.mk #[(99 : UInt8), (45 : UInt8)]).data.toList,
 (ByteArray.mk #[(45 : UInt8)]).data.toList]
 (lowN
 (intZ ns x.snd.snd.snd) (9 : Int)))
 x_1.snd -
 (32 : Int)))])),
 ((9 : Nat),
 PV.str
 (x.snd.fst ++ (ByteArray.mk #[(46 : UInt8)]).data.toList ++
 strZ
 [(ByteArray.mk #[(97 : UInt8)]).data.toList,
 (ByteArray.mk
 #[(101 : UInt8), (120 : UInt8), (97 : UInt8), (109 : UInt8),
 (112 : UInt8), (108 : UInt8), (101 : UInt8)]).data.toList,
 (ByteArray.mk
 #[(120 : UInt8), (45 : UInt8), (49 : UInt8)]).data.toList,
 (ByteArray.mk
 #[(120 : UInt8), (110 : UInt8), (45 : UInt8)]).data.toList,
 (ByteArray.mk
 #[(120 : UInt8), (110 : UInt8), (45 : UInt8), (45 : UInt8),
 (97 : UInt8)]).data.toList,
 (ByteArray.mk
 #[(111 : UInt8), (114 : UInt8), (103 : UInt8)]).data.toList,
 (ByteArray.mk #[(110 : UInt8), (48 : UInt8)]).data.toList,
 (ByteArray.mk #[(99 : UInt8), (45 : UInt8)]).data.toList,
 (ByteArray.mk #[(45 : UInt8)]).data.toList]
 (lowN (intZ ns x.snd.snd.snd)
 (9 : Int)))),
 ((10 : Nat),
 PV.bool
 (bif x.snd.snd.fst then true
 else
 decide
 (strZ
 [(ByteArray.mk #[(97 : UInt8)]).data.toList,
 (ByteArray.mk
 #[(101 : UInt8), (120 : UInt8), (97 : UInt8), (109 : UInt8),
 (112 : UInt8), (108 : UInt8), (101 : UInt8)]).data.toList,
 (ByteArray.mk
 #[(120 : UInt8), (45 : UInt8), (49 : UInt8)]).data.toList,
 (ByteArray.mk
 #[(120 : UInt8), (110 : UInt8), (45 : UInt8)]).data.toList,
 (ByteArray.mk
 #[(120 : UInt8), (110 : UInt8), (45 : UInt8), (45 : UInt8),
 (97 : UInt8)]).data.toList,
 (ByteArray.mk
 #[(111 : UInt8), (114 : UInt8), (103 : UInt8)]).data.toList,
 (ByteArray.mk #[(110 : UInt8), (48 : UInt8)]).data.toList,
 (ByteArray.mk #[(99 : UInt8), (45 : UInt8)]).data.toList,
 (ByteArray.mk #[(45 : UInt8)]).data.toList]
 (lowN (intZ ns x.snd.snd.snd)
 (9 : Int)) =
 (ByteArray.mk
 #[(120 : UInt8), (110 : UInt8), (45 : UInt8), (45 : UInt8),
 (97 : UInt8)]).data.toList))),
 ((11 : Nat), PV.int Go.IntKind.i64 x.snd.snd.snd),
 ((12 : Nat),
 PV.str
 (strZ
 [(ByteArray.mk #[(97 : UInt8)]).data.toList,
 (ByteArray.mk
 #[(101 : UInt8), (120 : UInt8), (97 : UInt8), (109 : UInt8),
 (112 : UInt8), (108 : UInt8), (101 : UInt8)]).data.toList,
 (ByteArray.mk #[(120 : UInt8), (45 : UInt8), (49 : UInt8)]).data.toList,
 (ByteArray.mk
 #[(120 : UInt8), (110 : UInt8), (45 : UInt8)]).data.toList,
 (ByteArray.mk
 #[(120 : UInt8), (110 : UInt8), (45 : UInt8), (45 : UInt8),
 (97 : UInt8)]).data.toList,
 (ByteArray.mk
 #[(111 : UInt8), (114 : UInt8), (103 : UInt8)]).data.toList,
 (ByteArray.mk #[(110 : UInt8), (48 : UInt8)]).data.toList,
 (ByteArray.mk #[(99 : UInt8), (45 : UInt8)]).data.toList,
 (ByteArray.mk #[(45 : UInt8)]).data.toList]
 (lowN (intZ ns x.snd.snd.snd)
 (9 : Int)))),
 ((13 : Nat), PV.int Go.IntKind.i64 (x_1.snd + (1 : Int))),
 ((14 : Nat), PV.undef), (nat_lit 15, PV.undef),
 (nat_lit 16, PV.undef),
 (nat_lit 24,
 PV.bool
 (bif decide (Int.ofNat ns.length < (1 : Int)) then true
 else decide ((6 : Int) < Int.ofNat ns.length))),
 ((30 : Nat), PV.bool (decide (x.snd.snd.snd < Int.ofNat ns.length))),
 ((47 : Nat), PV.bool (decide ((0 : Int) < x.snd.snd.snd))),
 ((58 : Nat), PV.undef), ((72 : Nat), PV.undef),
 ((90 : Nat), PV.undef), (nat_lit 105, PV.undef)]
 [] ∧
 NamI
 (x.fst ++ (ByteArray.mk #[(46 : UInt8)]).data.toList)
 (strZ
 [(ByteArray.mk #[(97 : UInt8)]).data.toList,
 (ByteArray.mk
 #[(101 : UInt8), (120 : UInt8), (97 : UInt8), (109 : UInt8),
 (112 : UInt8), (108 : UInt8), (101 : UInt8)]).data.toList,
 (ByteArray.mk #[(120 : UInt8), (45 : UInt8), (49 : UInt8)]).data.toList,
 (ByteArray.mk #[(120 : UInt8), (110 : UInt8), (45 : UInt8)]).data.toList,
 (ByteArray.mk
 #[(120 : UInt8), (110 : UInt8), (45 : UInt8), (45 : UInt8),
 (97 : UInt8)]).data.toList,
 (ByteArray.mk #[(111 : UInt8), (114 : UInt8), (103 : UInt8)]).data.toList,
 (ByteArray.mk #[(110 : UInt8), (48 : UInt8)]).data.toList,
 (ByteArray.mk #[(99 : UInt8), (45 : UInt8)]).data.toList,
 (ByteArray.mk #[(45 : UInt8)]).data.toList]
 (lowN (intZ ns x.snd.snd.snd) (9 : Int)))
 (x_1.fst ++
 [zByte
 (Go.IntKind.u8.wrap
 (byteZ
 (strZ
 [(ByteArray.mk #[(97 : UInt8)]).data.toList,
 (ByteArray.mk
 #[(101 : UInt8), (120 : UInt8), (97 : UInt8), (109 : UInt8),
 (112 : UInt8), (108 : UInt8), (101 : UInt8)]).data.toList,
 (ByteArray.mk
 #[(120 : UInt8), (45 : UInt8), (49 : UInt8)]).data.toList,
 (ByteArray.mk
 #[(120 : UInt8), (110 : UInt8), (45 : UInt8)]).data.toList,
 (ByteArray.mk
 #[(120 : UInt8), (110 : UInt8), (45 : UInt8), (45 : UInt8),
 (97 : UInt8)]).data.toList,
 (ByteArray.mk
 #[(111 : UInt8), (114 : UInt8), (103 : UInt8)]).data.toList,
 (ByteArray.mk #[(110 : UInt8), (48 : UInt8)]).data.toList,
 (ByteArray.mk #[(99 : UInt8), (45 : UInt8)]).data.toList,
 (ByteArray.mk #[(45 : UInt8)]).data.toList]
 (lowN (intZ ns x.snd.snd.snd)
 (9 : Int)))
 x_1.snd -
 (32 : Int)))])
 (x_1.snd + (1 : Int)) ∧
 (↑(List.length
 (strZ
 [(ByteArray.mk #[(97 : UInt8)]).data.toList,
 (ByteArray.mk
 #[(101 : UInt8), (120 : UInt8), (97 : UInt8), (109 : UInt8),
 (112 : UInt8), (108 : UInt8), (101 : UInt8)]).data.toList,
 (ByteArray.mk
 #[(120 : UInt8), (45 : UInt8), (49 : UInt8)]).data.toList,
 (ByteArray.mk
 #[(120 : UInt8), (110 : UInt8), (45 : UInt8)]).data.toList,
 (ByteArray.mk
 #[(120 : UInt8), (110 : UInt8), (45 : UInt8), (45 : UInt8),
 (97 : UInt8)]).data.toList,
 (ByteArray.mk
 #[(111 : UInt8), (114 : UInt8), (103 : UInt8)]).data.toList,
 (ByteArray.mk #[(110 : UInt8), (48 : UInt8)]).data.toList,
 (ByteArray.mk #[(99 : UInt8), (45 : UInt8)]).data.toList,
 (ByteArray.mk #[(45 : UInt8)]).data.toList]
 (lowN (intZ ns x.snd.snd.snd)
 (9 : Int)))) -
 (x_1.snd + (1 : Int))).toNat <
 (↑(List.length
 (strZ
 [(ByteArray.mk #[(97 : UInt8)]).data.toList,
 (ByteArray.mk
 #[(101 : UInt8), (120 : UInt8), (97 : UInt8), (109 : UInt8),
 (112 : UInt8), (108 : UInt8), (101 : UInt8)]).data.toList,
 (ByteArray.mk
 #[(120 : UInt8), (45 : UInt8), (49 : UInt8)]).data.toList,
 (ByteArray.mk
 #[(120 : UInt8), (110 : UInt8), (45 : UInt8)]).data.toList,
 (ByteArray.mk
 #[(120 : UInt8), (110 : UInt8), (45 : UInt8), (45 : UInt8),
 (97 : UInt8)]).data.toList,
 (ByteArray.mk
 #[(111 : UInt8), (114 : UInt8), (103 : UInt8)]).data.toList,
 (ByteArray.mk #[(110 : UInt8), (48 : UInt8)]).data.toList,
 (ByteArray.mk #[(99 : UInt8), (45 : UInt8)]).data.toList,
 (ByteArray.mk #[(45 : UInt8)]).data.toList]
 (lowN (intZ ns x.snd.snd.snd)
 (9 : Int)))) -
 x_1.snd).toNat)) ∧
 ((bif
 bif g then
 decide
 ((97 : Int) ≤
 byteZ
 (strZ
 [(ByteArray.mk #[(97 : UInt8)]).data.toList,
 (ByteArray.mk
 #[(101 : UInt8), (120 : UInt8), (97 : UInt8), (109 : UInt8), (112 : UInt8),
 (108 : UInt8), (101 : UInt8)]).data.toList,
 (ByteArray.mk #[(120 : UInt8), (45 : UInt8), (49 : UInt8)]).data.toList,
 (ByteArray.mk #[(120 : UInt8), (110 : UInt8), (45 : UInt8)]).data.toList,
 (ByteArray.mk
 #[(120 : UInt8), (110 : UInt8), (45 : UInt8), (45 : UInt8),
 (97 : UInt8)]).data.toList,
 (ByteArray.mk #[(111 : UInt8), (114 : UInt8), (103 : UInt8)]).data.toList,
 (ByteArray.mk #[(110 : UInt8), (48 : UInt8)]).data.toList,
 (ByteArray.mk #[(99 : UInt8), (45 : UInt8)]).data.toList,
 (ByteArray.mk #[(45 : UInt8)]).data.toList]
 (lowN (intZ ns x.snd.snd.snd) (9 : Int)))
 x_1.snd)
 else false then
 decide
 (byteZ
 (strZ
 [(ByteArray.mk #[(97 : UInt8)]).data.toList,
 (ByteArray.mk
 #[(101 : UInt8), (120 : UInt8), (97 : UInt8), (109 : UInt8), (112 : UInt8), (108 : UInt8),
 (101 : UInt8)]).data.toList,
 (ByteArray.mk #[(120 : UInt8), (45 : UInt8), (49 : UInt8)]).data.toList,
 (ByteArray.mk #[(120 : UInt8), (110 : UInt8), (45 : UInt8)]).data.toList,
 (ByteArray.mk
 #[(120 : UInt8), (110 : UInt8), (45 : UInt8), (45 : UInt8), (97 : UInt8)]).data.toList,
 (ByteArray.mk #[(111 : UInt8), (114 : UInt8), (103 : UInt8)]).data.toList,
 (ByteArray.mk #[(110 : UInt8), (48 : UInt8)]).data.toList,
 (ByteArray.mk #[(99 : UInt8), (45 : UInt8)]).data.toList,
 (ByteArray.mk #[(45 : UInt8)]).data.toList]
 (lowN (intZ ns x.snd.snd.snd) (9 : Int)))
 x_1.snd ≤
 (122 : Int))
 else false) =
 false →
 inI64 ((5 : Int) * x.snd.snd.snd) ∧
 inI64 ((5 : Int) * x.snd.snd.snd + x_1.snd) ∧
 (decide ((5 : Int) * x.snd.snd.snd + x_1.snd < lenZ shp) = true →
 inI64 ((5 : Int) * x.snd.snd.snd)) ∧
 (decide ((5 : Int) * x.snd.snd.snd + x_1.snd < lenZ shp) = true →
 inI64 ((5 : Int) * x.snd.snd.snd + x_1.snd)) ∧
 (decide ((5 : Int) * x.snd.snd.snd + x_1.snd < lenZ shp) = true →
 within ((5 : Int) * x.snd.snd.snd + x_1.snd) (lenZ shp)) ∧
 (decide ((5 : Int) * x.snd.snd.snd + x_1.snd < lenZ shp) = true →
 partV Go.Proofs.Tryd.prog (4 : Nat) (pvZ shp ((5 : Int) * x.snd.snd.snd + x_1.snd))
 (0 : Nat) =
 PV.bool
 (partV Go.Proofs.Tryd.prog (4 : Nat)
 (pvZ shp ((5 : Int) * x.snd.snd.snd + x_1.snd)) (0 : Nat)).asBool) ∧
 ((bif decide ((5 : Int) * x.snd.snd.snd + x_1.snd < lenZ shp) then
 (partV Go.Proofs.Tryd.prog (4 : Nat)
 (pvZ shp ((5 : Int) * x.snd.snd.snd + x_1.snd)) (0 : Nat)).asBool
 else false) =
 true →
 ((0 : Int) ≤
 byteZ
 (strZ
 [(ByteArray.mk #[(97 : UInt8)]).data.toList,
 (ByteArray.mk
 #[(101 : UInt8), (120 : UInt8), (97 : UInt8), (109 : UInt8), (112 : UInt8),
 (108 : UInt8), (101 : UInt8)]).data.toList,
 (ByteArray.mk #[(120 : UInt8), (45 : UInt8), (49 : UInt8)]).data.toList,
 (ByteArray.mk #[(120 : UInt8), (110 : UInt8), (45 : UInt8)]).data.toList,
 (ByteArray.mk
 #[(120 : UInt8), (110 : UInt8), (45 : UInt8), (45 : UInt8),
 (97 : UInt8)]).data.toList,
 (ByteArray.mk #[(111 : UInt8), (114 : UInt8), (103 : UInt8)]).data.toList,
 (ByteArray.mk #[(110 : UInt8), (48 : UInt8)]).data.toList,
 (ByteArray.mk #[(99 : UInt8), (45 : UInt8)]).data.toList,
 (ByteArray.mk #[(45 : UInt8)]).data.toList]
 (lowN (intZ ns x.snd.snd.snd) (9 : Int)))
 x_1.snd ∧
 byteZ
 (strZ
 [(ByteArray.mk #[(97 : UInt8)]).data.toList,
 (ByteArray.mk
 #[(101 : UInt8), (120 : UInt8), (97 : UInt8), (109 : UInt8), (112 : UInt8),
 (108 : UInt8), (101 : UInt8)]).data.toList,
 (ByteArray.mk #[(120 : UInt8), (45 : UInt8), (49 : UInt8)]).data.toList,
 (ByteArray.mk #[(120 : UInt8), (110 : UInt8), (45 : UInt8)]).data.toList,
 (ByteArray.mk
 #[(120 : UInt8), (110 : UInt8), (45 : UInt8), (45 : UInt8),
 (97 : UInt8)]).data.toList,
 (ByteArray.mk #[(111 : UInt8), (114 : UInt8), (103 : UInt8)]).data.toList,
 (ByteArray.mk #[(110 : UInt8), (48 : UInt8)]).data.toList,
 (ByteArray.mk #[(99 : UInt8), (45 : UInt8)]).data.toList,
 (ByteArray.mk #[(45 : UInt8)]).data.toList]
 (lowN (intZ ns x.snd.snd.snd) (9 : Int)))
 x_1.snd ≤
 (255 : Int)) ∧
 List.length x_1.fst +
 List.length
 (hexS
 (byteZ
 (strZ
 [(ByteArray.mk #[(97 : UInt8)]).data.toList,
 (ByteArray.mk
 #[(101 : UInt8), (120 : UInt8), (97 : UInt8), (109 : UInt8),
 (112 : UInt8), (108 : UInt8), (101 : UInt8)]).data.toList,
 (ByteArray.mk #[(120 : UInt8), (45 : UInt8), (49 : UInt8)]).data.toList,
 (ByteArray.mk #[(120 : UInt8), (110 : UInt8), (45 : UInt8)]).data.toList,
 (ByteArray.mk
 #[(120 : UInt8), (110 : UInt8), (45 : UInt8), (45 : UInt8),
 (97 : UInt8)]).data.toList,
 (ByteArray.mk #[(111 : UInt8), (114 : UInt8), (103 : UInt8)]).data.toList,
 (ByteArray.mk #[(110 : UInt8), (48 : UInt8)]).data.toList,
 (ByteArray.mk #[(99 : UInt8), (45 : UInt8)]).data.toList,
 (ByteArray.mk #[(45 : UInt8)]).data.toList]
 (lowN (intZ ns x.snd.snd.snd) (9 : Int)))
 x_1.snd)) ≤
 Go.Vc.maxLen ∧
 inI64 (x_1.snd + (1 : Int)) ∧
 VS.mk []
 [(nat_lit 0, PV.row nl (BRow.ints Go.IntKind.i64 ns) (0 : Nat)),
 (nat_lit 1, PV.vec nl2 (1 : Nat) shp (0 : Nat)),
 (nat_lit 2, PV.bool g), (nat_lit 6, PV.bool false),
 (nat_lit 7,
 PV.row false
 (BRow.strs
 [(ByteArray.mk #[(97 : UInt8)]).data.toList,
 (ByteArray.mk
 #[(101 : UInt8), (120 : UInt8), (97 : UInt8), (109 : UInt8),
 (112 : UInt8), (108 : UInt8), (101 : UInt8)]).data.toList,
 (ByteArray.mk #[(120 : UInt8), (45 : UInt8), (49 : UInt8)]).data.toList,
 (ByteArray.mk
 #[(120 : UInt8), (110 : UInt8), (45 : UInt8)]).data.toList,
 (ByteArray.mk
 #[(120 : UInt8), (110 : UInt8), (45 : UInt8), (45 : UInt8),
 (97 : UInt8)]).data.toList,
 (ByteArray.mk
 #[(111 : UInt8), (114 : UInt8), (103 : UInt8)]).data.toList,
 (ByteArray.mk #[(110 : UInt8), (48 : UInt8)]).data.toList,
 (ByteArray.mk #[(99 : UInt8), (45 : UInt8)]).data.toList,
 (ByteArray.mk #[(45 : UInt8)]).data.toList])
 (0 : Nat)),
 ((8 : Nat),
 PV.str
 (x_1.fst ++
 hexS
 (byteZ
 (strZ
 [(ByteArray.mk #[(97 : UInt8)]).data.toList,
 (ByteArray.mk
 #[(101 : UInt8), (120 : UInt8), (97 : UInt8), (109 : UInt8),
 (112 : UInt8), (108 : UInt8), (101 : UInt8)]).data.toList,
 (ByteArray.mk
 #[(120 : UInt8), (45 : UInt8), (49 : UInt8)]).data.toList,
 (ByteArray.mk
 #[(120 : UInt8), (110 : UInt8), (45 : UInt8)]).data.toList,
 (ByteArray.mk
 #[(120 : UInt8), (110 : UInt8), (45 : UInt8), (45 : UInt8),
 (97 : UInt8)]).data.toList,
 (ByteArray.mk
 #[(111 : UInt8), (114 : UInt8), (103 : UInt8)]).data.toList,
 (ByteArray.mk #[(110 : UInt8), (48 : UInt8)]).data.toList,
 (ByteArray.mk #[(99 : UInt8), (45 : UInt8)]).data.toList,
 (ByteArray.mk #[(45 : UInt8)]).data.toList]
 (lowN (intZ ns x.snd.snd.snd)
 (9 : Int)))
 x_1.snd))),
 ((9 : Nat),
 PV.str
 (x.snd.fst ++ (ByteArray.mk #[(46 : UInt8)]).data.toList ++
 strZ
 [(ByteArray.mk #[(97 : UInt8)]).data.toList,
 (ByteArray.mk
 #[(101 : UInt8), (120 : UInt8), (97 : UInt8), (109 : UInt8),
 (112 : UInt8), (108 : UInt8), (101 : UInt8)]).data.toList,
 (ByteArray.mk
 #[(120 : UInt8), (45 : UInt8), (49 : UInt8)]).data.toList,
 (ByteArray.mk
 #[(120 : UInt8), (110 : UInt8), (45 : UInt8)]).data.toList,
 (ByteArray.mk
 #[(120 : UInt8), (110 : UInt8), (45 : UInt8), (45 : UInt8),
 (97 : UInt8)]).data.toList,
 (ByteArray.mk
 #[(111 : UInt8), (114 : UInt8), (103 : UInt8)]).data.toList,
 (ByteArray.mk #[(110 : UInt8), (48 : UInt8)]).data.toList,
 (ByteArray.mk #[(99 : UInt8), (45 : UInt8)]).data.toList,
 (ByteArray.mk #[(45 : UInt8)]).data.toList]
 (lowN (intZ ns x.snd.snd.snd)
 (9 : Int)))),
 ((10 : Nat),
 PV.bool
 (bif x.snd.snd.fst then true
 else
 decide
 (strZ
 [(ByteArray.mk #[(97 : UInt8)]).data.toList,
 (ByteArray.mk
 #[(101 : UInt8), (120 : UInt8), (97 : UInt8), (109 : UInt8),
 (112 : UInt8), (108 : UInt8), (101 : UInt8)]).data.toList,
 (ByteArray.mk
 #[(120 : UInt8), (45 : UInt8), (49 : UInt8)]).data.toList,
 (ByteArray.mk
 #[(120 : UInt8), (110 : UInt8), (45 : UInt8)]).data.toList,
 (ByteArray.mk
 #[(120 : UInt8), (110 : UInt8), (45 : UInt8), (45 : UInt8),
 (97 : UInt8)]).data.toList,
 (ByteArray.mk
 #[(111 : UInt8), (114 : UInt8), (103 : UInt8)]).data.toList,
 (ByteArray.mk #[(110 : UInt8), (48 : UInt8)]).data.toList,
 (ByteArray.mk #[(99 : UInt8), (45 : UInt8)]).data.toList,
 (ByteArray.mk #[(45 : UInt8)]).data.toList]
 (lowN (intZ ns x.snd.snd.snd)
 (9 : Int)) =
 (ByteArray.mk
 #[(120 : UInt8), (110 : UInt8), (45 : UInt8), (45 : UInt8),
 (97 : UInt8)]).data.toList))),
 ((11 : Nat), PV.int Go.IntKind.i64 x.snd.snd.snd),
 ((12 : Nat),
 PV.str
 (strZ
 [(ByteArray.mk #[(97 : UInt8)]).data.toList,
 (ByteArray.mk
 #[(101 : UInt8), (120 : UInt8), (97 : UInt8), (109 : UInt8),
 (112 : UInt8), (108 : UInt8), (101 : UInt8)]).data.toList,
 (ByteArray.mk #[(120 : UInt8), (45 : UInt8), (49 : UInt8)]).data.toList,
 (ByteArray.mk
 #[(120 : UInt8), (110 : UInt8), (45 : UInt8)]).data.toList,
 (ByteArray.mk
 #[(120 : UInt8), (110 : UInt8), (45 : UInt8), (45 : UInt8),
 (97 : UInt8)]).data.toList,
 (ByteArray.mk
 #[(111 : UInt8), (114 : UInt8), (103 : UInt8)]).data.toList,
 (ByteArray.mk #[(110 : UInt8), (48 : UInt8)]).data.toList,
 (ByteArray.mk #[(99 : UInt8), (45 : UInt8)]).data.toList,
 (ByteArray.mk #[(45 : UInt8)]).data.toList]
 (lowN (intZ ns x.snd.snd.snd)
 (9 : Int)))),
 ((13 : Nat), PV.int Go.IntKind.i64 (x_1.snd + (1 : Int))),
 ((14 : Nat), PV.undef), (nat_lit 15, PV.undef),
 (nat_lit 16, PV.undef),
 (nat_lit 24,
 PV.bool
 (bif decide (Int.ofNat ns.length < (1 : Int)) then true
 else decide ((6 : Int) < Int.ofNat ns.length))),
 ((30 : Nat), PV.bool (decide (x.snd.snd.snd < Int.ofNat ns.length))),
 ((47 : Nat), PV.bool (decide ((0 : Int) < x.snd.snd.snd))),
 ((58 : Nat), PV.undef), ((72 : Nat), PV.undef),
 ((90 : Nat), PV.undef), (nat_lit 105, PV.undef)]
 [] =
 VS.mk []
 [(nat_lit 0, PV.row nl (BRow.ints Go.IntKind.i64 ns) (0 : Nat)),
 (nat_lit 1, PV.vec nl2 (1 : Nat) shp (0 : Nat)),
 (nat_lit 2, PV.bool g), (nat_lit 6, PV.bool false),
 (nat_lit 7,
 PV.row false
 (BRow.strs
 [(ByteArray.mk #[(97 : UInt8)]).data.toList,
 (ByteArray.mk
 #[(101 : UInt8), (120 : UInt8), (97 : UInt8), (109 : UInt8),
 (112 : UInt8), (108 : UInt8), (101 : UInt8)]).data.toList,
 (ByteArray.mk #[(120 : UInt8), (45 : UInt8), (49 : UInt8)]).data.toList,
 (ByteArray.mk
 #[(120 : UInt8), (110 : UInt8), (45 : UInt8)]).data.toList,
 (ByteArray.mk
 #[(120 : UInt8), (110 : UInt8), (45 : UInt8), (45 : UInt8),
 (97 : UInt8)]).data.toList,
 (ByteArray.mk
 #[(111 : UInt8), (114 : UInt8), (103 : UInt8)]).data.toList,
 (ByteArray.mk #[(110 : UInt8), (48 : UInt8)]).data.toList,
 (ByteArray.mk #[(99 : UInt8), (45 : UInt8)]).data.toList,
 (ByteArray.mk #[(45 : UInt8)]).data.toList])
 (0 : Nat)),
 ((8 : Nat),
 PV.str
 (x_1.fst ++
 hexS
 (byteZ
 (strZ
 [(ByteArray.mk #[(97 : UInt8)]).data.toList,
 (ByteArray.mk
 #[(101 : UInt8), (120 : UInt8), (97 : UInt8), (109 : UInt8),
 (112 : UInt8), (108 : UInt8), (101 : UInt8)]).data.toList,
 (ByteArray.mk
 #[(120 : UInt8), (45 : UInt8), (49 : UInt8)]).data.toList,
 (ByteArray.mk
 #[(120 : UInt8), (110 : UInt8), (45 : UInt8)]).data.toList,
 (ByteArray.mk
 #[(120 : UInt8), (110 : UInt8), (45 : UInt8), (45 : UInt8),
 (97 : UInt8)]).data.toList,
 (ByteArray.mk
 #[(111 : UInt8), (114 : UInt8), (103 : UInt8)]).data.toList,
 (ByteArray.mk #[(110 : UInt8), (48 : UInt8)]).data.toList,
 (ByteArray.mk #[(99 : UInt8), (45 : UInt8)]).data.toList,
 (ByteArray.mk #[(45 : UInt8)]).data.toList]
 (lowN (intZ ns x.snd.snd.snd)
 (9 : Int)))
 x_1.snd))),
 ((9 : Nat),
 PV.str
 (x.snd.fst ++ (ByteArray.mk #[(46 : UInt8)]).data.toList ++
 strZ
 [(ByteArray.mk #[(97 : UInt8)]).data.toList,
 (ByteArray.mk
 #[(101 : UInt8), (120 : UInt8), (97 : UInt8), (109 : UInt8),
 (112 : UInt8), (108 : UInt8), (101 : UInt8)]).data.toList,
 (ByteArray.mk
 #[(120 : UInt8), (45 : UInt8), (49 : UInt8)]).data.toList,
 (ByteArray.mk
 #[(120 : UInt8), (110 : UInt8), (45 : UInt8)]).data.toList,
 (ByteArray.mk
 #[(120 : UInt8), (110 : UInt8), (45 : UInt8), (45 : UInt8),
 (97 : UInt8)]).data.toList,
 (ByteArray.mk
 #[(111 : UInt8), (114 : UInt8), (103 : UInt8)]).data.toList,
 (ByteArray.mk #[(110 : UInt8), (48 : UInt8)]).data.toList,
 (ByteArray.mk #[(99 : UInt8), (45 : UInt8)]).data.toList,
 (ByteArray.mk #[(45 : UInt8)]).data.toList]
 (lowN (intZ ns x.snd.snd.snd)
 (9 : Int)))),
 ((10 : Nat),
 PV.bool
 (bif x.snd.snd.fst then true
 else
 decide
 (strZ
 [(ByteArray.mk #[(97 : UInt8)]).data.toList,
 (ByteArray.mk
 #[(101 : UInt8), (120 : UInt8), (97 : UInt8), (109 : UInt8),
 (112 : UInt8), (108 : UInt8), (101 : UInt8)]).data.toList,
 (ByteArray.mk
 #[(120 : UInt8), (45 : UInt8), (49 : UInt8)]).data.toList,
 (ByteArray.mk
 #[(120 : UInt8), (110 : UInt8), (45 : UInt8)]).data.toList,
 (ByteArray.mk
 #[(120 : UInt8), (110 : UInt8), (45 : UInt8), (45 : UInt8),
 (97 : UInt8)]).data.toList,
 (ByteArray.mk
 #[(111 : UInt8), (114 : UInt8), (103 : UInt8)]).data.toList,
 (ByteArray.mk #[(110 : UInt8), (48 : UInt8)]).data.toList,
 (ByteArray.mk #[(99 : UInt8), (45 : UInt8)]).data.toList,
 (ByteArray.mk #[(45 : UInt8)]).data.toList]
 (lowN (intZ ns x.snd.snd.snd)
 (9 : Int)) =
 (ByteArray.mk
 #[(120 : UInt8), (110 : UInt8), (45 : UInt8), (45 : UInt8),
 (97 : UInt8)]).data.toList))),
 ((11 : Nat), PV.int Go.IntKind.i64 x.snd.snd.snd),
 ((12 : Nat),
 PV.str
 (strZ
 [(ByteArray.mk #[(97 : UInt8)]).data.toList,
 (ByteArray.mk
 #[(101 : UInt8), (120 : UInt8), (97 : UInt8), (109 : UInt8),
 (112 : UInt8), (108 : UInt8), (101 : UInt8)]).data.toList,
 (ByteArray.mk #[(120 : UInt8), (45 : UInt8), (49 : UInt8)]).data.toList,
 (ByteArray.mk
 #[(120 : UInt8), (110 : UInt8), (45 : UInt8)]).data.toList,
 (ByteArray.mk
 #[(120 : UInt8), (110 : UInt8), (45 : UInt8), (45 : UInt8),
 (97 : UInt8)]).data.toList,
 (ByteArray.mk
 #[(111 : UInt8), (114 : UInt8), (103 : UInt8)]).data.toList,
 (ByteArray.mk #[(110 : UInt8), (48 : UInt8)]).data.toList,
 (ByteArray.mk #[(99 : UInt8), (45 : UInt8)]).data.toList,
 (ByteArray.mk #[(45 : UInt8)]).data.toList]
 (lowN (intZ ns x.snd.snd.snd)
 (9 : Int)))),
 ((13 : Nat), PV.int Go.IntKind.i64 (x_1.snd + (1 : Int))),
 ((14 : Nat), PV.undef), (nat_lit 15, PV.undef),
 (nat_lit 16, PV.undef),
 (nat_lit 24,
 PV.bool
 (bif decide (Int.ofNat ns.length < (1 : Int)) then true
 else decide ((6 : Int) < Int.ofNat ns.length))),
 ((30 : Nat), PV.bool (decide (x.snd.snd.snd < Int.ofNat ns.length))),
 ((47 : Nat), PV.bool (decide ((0 : Int) < x.snd.snd.snd))),
 ((58 : Nat), PV.undef), ((72 : Nat), PV.undef),
 ((90 : Nat), PV.undef), (nat_lit 105, PV.undef)]
 [] ∧
 NamI
 (x.fst ++ (ByteArray.mk #[(46 : UInt8)]).data.toList)
 (strZ
 [(ByteArray.mk #[(97 : UInt8)]).data.toList,
 (ByteArray.mk
 #[(101 : UInt8), (120 : UInt8), (97 : UInt8), (109 : UInt8),
 (112 : UInt8), (108 : UInt8), (101 : UInt8)]).data.toList,
 (ByteArray.mk #[(120 : UInt8), (45 : UInt8), (49 : UInt8)]).data.toList,
 (ByteArray.mk #[(120 : UInt8), (110 : UInt8), (45 : UInt8)]).data.toList,
 (ByteArray.mk
 #[(120 : UInt8), (110 : UInt8), (45 : UInt8), (45 : UInt8),
 (97 : UInt8)]).data.toList,
 (ByteArray.mk #[(111 : UInt8), (114 : UInt8), (103 : UInt8)]).data.toList,
 (ByteArray.mk #[(110 : UInt8), (48 : UInt8)]).data.toList,
 (ByteArray.mk #[(99 : UInt8), (45 : UInt8)]).data.toList,
 (ByteArray.mk #[(45 : UInt8)]).data.toList]
 (lowN (intZ ns x.snd.snd.snd) (9 : Int)))
 (x_1.fst ++
 hexS
 (byteZ
 (strZ
 [(ByteArray.mk #[(97 : UInt8)]).data.toList,
 (ByteArray.mk
 #[(101 : UInt8), (120 : UInt8), (97 : UInt8), (109 : UInt8),
 (112 : UInt8), (108 : UInt8), (101 : UInt8)]).data.toList,
 (ByteArray.mk #[(120 : UInt8), (45 : UInt8), (49 : UInt8)]).data.toList,
 (ByteArray.mk
 #[(120 : UInt8), (110 : UInt8), (45 : UInt8)]).data.toList,
 (ByteArray.mk
 #[(120 : UInt8), (110 : UInt8), (45 : UInt8), (45 : UInt8),
 (97 : UInt8)]).data.toList,
 (ByteArray.mk
 #[(111 : UInt8), (114 : UInt8), (103 : UInt8)]).data.toList,
 (ByteArray.mk #[(110 : UInt8), (48 : UInt8)]).data.toList,
 (ByteArray.mk #[(99 : UInt8), (45 : UInt8)]).data.toList,
 (ByteArray.mk #[(45 : UInt8)]).data.toList]
 (lowN (intZ ns x.snd.snd.snd)
 (9 : Int)))
 x_1.snd))
 (x_1.snd + (1 : Int)) ∧
 (↑(List.length
 (strZ
 [(ByteArray.mk #[(97 : UInt8)]).data.toList,
 (ByteArray.mk
 #[(101 : UInt8), (120 : UInt8), (97 : UInt8), (109 : UInt8),
 (112 : UInt8), (108 : UInt8), (101 : UInt8)]).data.toList,
 (ByteArray.mk
 #[(120 : UInt8), (45 : UInt8), (49 : UInt8)]).data.toList,
 (ByteArray.mk
 #[(120 : UInt8), (110 : UInt8), (45 : UInt8)]).data.toList,
 (ByteArray.mk
 #[(120 : UInt8), (110 : UInt8), (45 : UInt8), (45 : UInt8),
 (97 : UInt8)]).data.toList,
 (ByteArray.mk
 #[(111 : UInt8), (114 : UInt8), (103 : UInt8)]).data.toList,
 (ByteArray.mk #[(110 : UInt8), (48 : UInt8)]).data.toList,
 (ByteArray.mk #[(99 : UInt8), (45 : UInt8)]).data.toList,
 (ByteArray.mk #[(45 : UInt8)]).data.toList]
 (lowN (intZ ns x.snd.snd.snd)
 (9 : Int)))) -
 (x_1.snd + (1 : Int))).toNat <
 (↑(List.length
 (strZ
 [(ByteArray.mk #[(97 : UInt8)]).data.toList,
 (ByteArray.mk
 #[(101 : UInt8), (120 : UInt8), (97 : UInt8), (109 : UInt8),
 (112 : UInt8), (108 : UInt8), (101 : UInt8)]).data.toList,
 (ByteArray.mk
 #[(120 : UInt8), (45 : UInt8), (49 : UInt8)]).data.toList,
 (ByteArray.mk
 #[(120 : UInt8), (110 : UInt8), (45 : UInt8)]).data.toList,
 (ByteArray.mk
 #[(120 : UInt8), (110 : UInt8), (45 : UInt8), (45 : UInt8),
 (97 : UInt8)]).data.toList,
 (ByteArray.mk
 #[(111 : UInt8), (114 : UInt8), (103 : UInt8)]).data.toList,
 (ByteArray.mk #[(110 : UInt8), (48 : UInt8)]).data.toList,
 (ByteArray.mk #[(99 : UInt8), (45 : UInt8)]).data.toList,
 (ByteArray.mk #[(45 : UInt8)]).data.toList]
 (lowN (intZ ns x.snd.snd.snd)
 (9 : Int)))) -
 x_1.snd).toNat) ∧
 ((bif decide ((5 : Int) * x.snd.snd.snd + x_1.snd < lenZ shp) then
 (partV Go.Proofs.Tryd.prog (4 : Nat)
 (pvZ shp ((5 : Int) * x.snd.snd.snd + x_1.snd)) (0 : Nat)).asBool
 else false) =
 false →
 allU8
 [PV.int Go.IntKind.u8
 (byteZ
 (strZ
 [(ByteArray.mk #[(97 : UInt8)]).data.toList,
 (ByteArray.mk
 #[(101 : UInt8), (120 : UInt8), (97 : UInt8), (109 : UInt8),
 (112 : UInt8), (108 : UInt8), (101 : UInt8)]).data.toList,
 (ByteArray.mk #[(120 : UInt8), (45 : UInt8), (49 : UInt8)]).data.toList,
 (ByteArray.mk #[(120 : UInt8), (110 : UInt8), (45 : UInt8)]).data.toList,
 (ByteArray.mk
 #[(120 : UInt8), (110 : UInt8), (45 : UInt8), (45 : UInt8),
 (97 : UInt8)]).data.toList,
 (ByteArray.mk #[(111 : UInt8), (114 : UInt8), (103 : UInt8)]).data.toList,
 (ByteArray.mk #[(110 : UInt8), (48 : UInt8)]).data.toList,
 (ByteArray.mk #[(99 : UInt8), (45 : UInt8)]).data.toList,
 (ByteArray.mk #[(45 : UInt8)]).data.toList]
 (lowN (intZ ns x.snd.snd.snd) (9 : Int)))
 x_1.snd)] ∧
 List.length x_1.fst +
 [zByte
 (byteZ
 (strZ
 [(ByteArray.mk #[(97 : UInt8)]).data.toList,
 (ByteArray.mk
 #[(101 : UInt8), (120 : UInt8), (97 : UInt8), (109 : UInt8),
 (112 : UInt8), (108 : UInt8), (101 : UInt8)]).data.toList,
 (ByteArray.mk #[(120 : UInt8), (45 : UInt8), (49 : UInt8)]).data.toList,
 (ByteArray.mk #[(120 : UInt8), (110 : UInt8), (45 : UInt8)]).data.toList,
 (ByteArray.mk
 #[(120 : UInt8), (110 : UInt8), (45 : UInt8), (45 : UInt8),
 (97 : UInt8)]).data.toList,
 (ByteArray.mk #[(111 : UInt8), (114 : UInt8), (103 : UInt8)]).data.toList,
 (ByteArray.mk #[(110 : UInt8), (48 : UInt8)]).data.toList,
 (ByteArray.mk #[(99 : UInt8), (45 : UInt8)]).data.toList,
 (ByteArray.mk #[(45 : UInt8)]).data.toList]
 (lowN (intZ ns x.snd.snd.snd)
 (9 : Int)))
 x_1.snd)].length ≤
 Go.Vc.maxLen ∧
 inI64 (x_1.snd + (1 : Int)) ∧
 VS.mk []
 [(nat_lit 0, PV.row nl (BRow.ints Go.IntKind.i64 ns) (0 : Nat)),
 (nat_lit 1, PV.vec nl2 (1 : Nat) shp (0 : Nat)),
 (nat_lit 2, PV.bool g), (nat_lit 6, PV.bool false),
 (nat_lit 7,
 PV.row false
 (BRow.strs
 [(ByteArray.mk #[(97 : UInt8)]).data.toList,
 (ByteArray.mk
 #[(101 : UInt8), (120 : UInt8), (97 : UInt8), (109 : UInt8),
 (112 : UInt8), (108 : UInt8), (101 : UInt8)]).data.toList,
 (ByteArray.mk #[(120 : UInt8), (45 : UInt8), (49 : UInt8)]).data.toList,
 (ByteArray.mk
 #[(120 : UInt8), (110 : UInt8), (45 : UInt8)]).data.toList,
 (ByteArray.mk
 #[(120 : UInt8), (110 : UInt8), (45 : UInt8), (45 : UInt8),
 (97 : UInt8)]).data.toList,
 (ByteArray.mk
 #[(111 : UInt8), (114 : UInt8), (103 : UInt8)]).data.toList,
 (ByteArray.mk #[(110 : UInt8), (48 : UInt8)]).data.toList,
 (ByteArray.mk #[(99 : UInt8), (45 : UInt8)]).data.toList,
 (ByteArray.mk #[(45 : UInt8)]).data.toList])
 (0 : Nat)),
 ((8 : Nat),
 PV.str
 (x_1.fst ++
 [zByte
 (byteZ
 (strZ
 [(ByteArray.mk #[(97 : UInt8)]).data.toList,
 (ByteArray.mk
 #[(101 : UInt8), (120 : UInt8), (97 : UInt8),
 (109 : UInt8), (112 : UInt8), (108 : UInt8),
 (101 : UInt8)]).data.toList,
 (ByteArray.mk
 #[(120 : UInt8), (45 : UInt8), (49 : UInt8)]).data.toList,
 (ByteArray.mk
 #[(120 : UInt8), (110 : UInt8),
 (45 : UInt8)]).data.toList,
 (ByteArray.mk
 #[(120 : UInt8), (110 : UInt8), (45 : UInt8),
 (45 : UInt8), (97 : UInt8)]).data.toList,
 (ByteArray.mk
 #[(111 : UInt8), (114 : UInt8),
 (103 : UInt8)]).data.toList,
 (ByteArray.mk #[(110 : UInt8), (48 : UInt8)]).data.toList,
 (ByteArray.mk #[(99 : UInt8), (45 : UInt8)]).data.toList,
 (ByteArray.mk #[(45 : UInt8)]).data.toList]
 (lowN (intZ ns x.snd.snd.snd)
 (9 : Int)))
 x_1.snd)])),
 ((9 : Nat),
 PV.str
 (x.snd.fst ++ (ByteArray.mk #[(46 : UInt8)]).data.toList ++
 strZ
 [(ByteArray.mk #[(97 : UInt8)]).data.toList,
 (ByteArray.mk
 #[(101 : UInt8), (120 : UInt8), (97 : UInt8), (109 : UInt8),
 (112 : UInt8), (108 : UInt8), (101 : UInt8)]).data.toList,
 (ByteArray.mk
 #[(120 : UInt8), (45 : UInt8), (49 : UInt8)]).data.toList,
 (ByteArray.mk
 #[(120 : UInt8), (110 : UInt8), (45 : UInt8)]).data.toList,
 (ByteArray.mk
 #[(120 : UInt8), (110 : UInt8), (45 : UInt8), (45 : UInt8),
 (97 : UInt8)]).data.toList,
 (ByteArray.mk
 #[(111 : UInt8), (114 : UInt8), (103 : UInt8)]).data.toList,
 (ByteArray.mk #[(110 : UInt8), (48 : UInt8)]).data.toList,
 (ByteArray.mk #[(99 : UInt8), (45 : UInt8)]).data.toList,
 (ByteArray.mk #[(45 : UInt8)]).data.toList]
 (lowN (intZ ns x.snd.snd.snd)
 (9 : Int)))),
 ((10 : Nat),
 PV.bool
 (bif x.snd.snd.fst then true
 else
 decide
 (strZ
 [(ByteArray.mk #[(97 : UInt8)]).data.toList,
 (ByteArray.mk
 #[(101 : UInt8), (120 : UInt8), (97 : UInt8), (109 : UInt8),
 (112 : UInt8), (108 : UInt8), (101 : UInt8)]).data.toList,
 (ByteArray.mk
 #[(120 : UInt8), (45 : UInt8), (49 : UInt8)]).data.toList,
 (ByteArray.mk
 #[(120 : UInt8), (110 : UInt8), (45 : UInt8)]).data.toList,
 (ByteArray.mk
 #[(120 : UInt8), (110 : UInt8), (45 : UInt8), (45 : UInt8),
 (97 : UInt8)]).data.toList,
 (ByteArray.mk
 #[(111 : UInt8), (114 : UInt8), (103 : UInt8)]).data.toList,
 (ByteArray.mk #[(110 : UInt8), (48 : UInt8)]).data.toList,
 (ByteArray.mk #[(99 : UInt8), (45 : UInt8)]).data.toList,
 (ByteArray.mk #[(45 : UInt8)]).data.toList]
 (lowN (intZ ns x.snd.snd.snd)
 (9 : Int)) =
 (ByteArray.mk
 #[(120 : UInt8), (110 : UInt8), (45 : UInt8), (45 : UInt8),
 (97 : UInt8)]).data.toList))),
 ((11 : Nat), PV.int Go.IntKind.i64 x.snd.snd.snd),
 ((12 : Nat),
 PV.str
 (strZ
 [(ByteArray.mk #[(97 : UInt8)]).data.toList,
 (ByteArray.mk
 #[(101 : UInt8), (120 : UInt8), (97 : UInt8), (109 : UInt8),
 (112 : UInt8), (108 : UInt8), (101 : UInt8)]).data.toList,
 (ByteArray.mk #[(120 : UInt8), (45 : UInt8), (49 : UInt8)]).data.toList,
 (ByteArray.mk
 #[(120 : UInt8), (110 : UInt8), (45 : UInt8)]).data.toList,
 (ByteArray.mk
 #[(120 : UInt8), (110 : UInt8), (45 : UInt8), (45 : UInt8),
 (97 : UInt8)]).data.toList,
 (ByteArray.mk
 #[(111 : UInt8), (114 : UInt8), (103 : UInt8)]).data.toList,
 (ByteArray.mk #[(110 : UInt8), (48 : UInt8)]).data.toList,
 (ByteArray.mk #[(99 : UInt8), (45 : UInt8)]).data.toList,
 (ByteArray.mk #[(45 : UInt8)]).data.toList]
 (lowN (intZ ns x.snd.snd.snd)
 (9 : Int)))),
 ((13 : Nat), PV.int Go.IntKind.i64 (x_1.snd + (1 : Int))),
 ((14 : Nat), PV.undef), (nat_lit 15, PV.undef),
 (nat_lit 16, PV.undef),
 (nat_lit 24,
 PV.bool
 (bif decide (Int.ofNat ns.length < (1 : Int)) then true
 else decide ((6 : Int) < Int.ofNat ns.length))),
 ((30 : Nat), PV.bool (decide (x.snd.snd.snd < Int.ofNat ns.length))),
 ((47 : Nat), PV.bool (decide ((0 : Int) < x.snd.snd.snd))),
 ((58 : Nat), PV.undef), ((72 : Nat), PV.undef),
 ((90 : Nat), PV.undef), (nat_lit 105, PV.undef)]
 [] =
 VS.mk []
 [(nat_lit 0, PV.row nl (BRow.ints Go.IntKind.i64 ns) (0 : Nat)),
 (nat_lit 1, PV.vec nl2 (1 : Nat) shp (0 : Nat)),
 (nat_lit 2, PV.bool g), (nat_lit 6, PV.bool false),
 (nat_lit 7,
 PV.row false
 (BRow.strs
 [(ByteArray.mk #[(97 : UInt8)]).data.toList,
 (ByteArray.mk
 #[(101 : UInt8), (120 : UInt8), (97 : UInt8), (109 : UInt8),
 (112 : UInt8), (108 : UInt8), (101 : UInt8)]).data.toList,
 (ByteArray.mk #[(120 : UInt8), (45 : UInt8), (49 : UInt8)]).data.toList,
 (ByteArray.mk
 #[(120 : UInt8), (110 : UInt8), (45 : UInt8)]).data.toList,
 (ByteArray.mk
 #[(120 : UInt8), (110 : UInt8), (45 : UInt8), (45 : UInt8),
 (97 : UInt8)]).data.toList,
 (ByteArray.mk
 #[(111 : UInt8), (114 : UInt8), (103 : UInt8)]).data.toList,
 (ByteArray.mk #[(110 : UInt8), (48 : UInt8)]).data.toList,
 (ByteArray.mk #[(99 : UInt8), (45 : UInt8)]).data.toList,
 (ByteArray.mk #[(45 : UInt8)]).data.toList])
 (0 : Nat)),
 ((8 : Nat),
 PV.str
 (x_1.fst ++
 [zByte
 (byteZ
 (strZ
 [(ByteArray.mk #[(97 : UInt8)]).data.toList,
 (ByteArray.mk
 #[(101 : UInt8), (120 : UInt8), (97 : UInt8),
 (109 : UInt8), (112 : UInt8), (108 : UInt8),
 (101 : UInt8)]).data.toList,
 (ByteArray.mk
 #[(120 : UInt8), (45 : UInt8), (49 : UInt8)]).data.toList,
 (ByteArray.mk
 #[(120 : UInt8), (110 : UInt8),
 (45 : UInt8)]).data.toList,
 (ByteArray.mk
 #[(120 : UInt8), (110 : UInt8), (45 : UInt8),
 (45 : UInt8), (97 : UInt8)]).data.toList,
 (ByteArray.mk
 #[(111 : UInt8), (114 : UInt8),
 (103 : UInt8)]).data.toList,
 (ByteArray.mk #[(110 : UInt8), (48 : UInt8)]).data.toList,
 (ByteArray.mk #[(99 : UInt8), (45 : UInt8)]).data.toList,
 (ByteArray.mk #[(45 : UInt8)]).data.toList]
 (lowN (intZ ns x.snd.snd.snd)
 (9 : Int)))
 x_1.snd)])),
 ((9 : Nat),
 PV.str
 (x.snd.fst ++ (ByteArray.mk #[(46 : UInt8)]).data.toList ++
 strZ
 [(ByteArray.mk #[(97 : UInt8)]).data.toList,
 (ByteArray.mk
 #[(101 : UInt8), (120 : UInt8), (97 : UInt8), (109 : UInt8),
 (112 : UInt8), (108 : UInt8), (101 : UInt8)]).data.toList,
 (ByteArray.mk
 #[(120 : UInt8), (45 : UInt8), (49 : UInt8)]).data.toList,
 (ByteArray.mk
 #[(120 : UInt8), (110 : UInt8), (45 : UInt8)]).data.toList,
 (ByteArray.mk
 #[(120 : UInt8), (110 : UInt8), (45 : UInt8), (45 : UInt8),
 (97 : UInt8)]).data.toList,
 (ByteArray.mk
 #[(111 : UInt8), (114 : UInt8), (103 : UInt8)]).data.toList,
 (ByteArray.mk #[(110 : UInt8), (48 : UInt8)]).data.toList,
 (ByteArray.mk #[(99 : UInt8), (45 : UInt8)]).data.toList,
 (ByteArray.mk #[(45 : UInt8)]).data.toList]
 (lowN (intZ ns x.snd.snd.snd)
 (9 : Int)))),
 ((10 : Nat),
 PV.bool
 (bif x.snd.snd.fst then true
 else
 decide
 (strZ
 [(ByteArray.mk #[(97 : UInt8)]).data.toList,
 (ByteArray.mk
 #[(101 : UInt8), (120 : UInt8), (97 : UInt8), (109 : UInt8),
 (112 : UInt8), (108 : UInt8), (101 : UInt8)]).data.toList,
 (ByteArray.mk
 #[(120 : UInt8), (45 : UInt8), (49 : UInt8)]).data.toList,
 (ByteArray.mk
 #[(120 : UInt8), (110 : UInt8), (45 : UInt8)]).data.toList,
 (ByteArray.mk
 #[(120 : UInt8), (110 : UInt8), (45 : UInt8), (45 : UInt8),
 (97 : UInt8)]).data.toList,
 (ByteArray.mk
 #[(111 : UInt8), (114 : UInt8), (103 : UInt8)]).data.toList,
 (ByteArray.mk #[(110 : UInt8), (48 : UInt8)]).data.toList,
 (ByteArray.mk #[(99 : UInt8), (45 : UInt8)]).data.toList,
 (ByteArray.mk #[(45 : UInt8)]).data.toList]
 (lowN (intZ ns x.snd.snd.snd)
 (9 : Int)) =
 (ByteArray.mk
 #[(120 : UInt8), (110 : UInt8), (45 : UInt8), (45 : UInt8),
 (97 : UInt8)]).data.toList))),
 ((11 : Nat), PV.int Go.IntKind.i64 x.snd.snd.snd),
 ((12 : Nat),
 PV.str
 (strZ
 [(ByteArray.mk #[(97 : UInt8)]).data.toList,
 (ByteArray.mk
 #[(101 : UInt8), (120 : UInt8), (97 : UInt8), (109 : UInt8),
 (112 : UInt8), (108 : UInt8), (101 : UInt8)]).data.toList,
 (ByteArray.mk #[(120 : UInt8), (45 : UInt8), (49 : UInt8)]).data.toList,
 (ByteArray.mk
 #[(120 : UInt8), (110 : UInt8), (45 : UInt8)]).data.toList,
 (ByteArray.mk
 #[(120 : UInt8), (110 : UInt8), (45 : UInt8), (45 : UInt8),
 (97 : UInt8)]).data.toList,
 (ByteArray.mk
 #[(111 : UInt8), (114 : UInt8), (103 : UInt8)]).data.toList,
 (ByteArray.mk #[(110 : UInt8), (48 : UInt8)]).data.toList,
 (ByteArray.mk #[(99 : UInt8), (45 : UInt8)]).data.toList,
 (ByteArray.mk #[(45 : UInt8)]).data.toList]
 (lowN (intZ ns x.snd.snd.snd)
 (9 : Int)))),
 ((13 : Nat), PV.int Go.IntKind.i64 (x_1.snd + (1 : Int))),
 ((14 : Nat), PV.undef), (nat_lit 15, PV.undef),
 (nat_lit 16, PV.undef),
 (nat_lit 24,
 PV.bool
 (bif decide (Int.ofNat ns.length < (1 : Int)) then true
 else decide ((6 : Int) < Int.ofNat ns.length))),
 ((30 : Nat), PV.bool (decide (x.snd.snd.snd < Int.ofNat ns.length))),
 ((47 : Nat), PV.bool (decide ((0 : Int) < x.snd.snd.snd))),
 ((58 : Nat), PV.undef), ((72 : Nat), PV.undef),
 ((90 : Nat), PV.undef), (nat_lit 105, PV.undef)]
 [] ∧
 NamI
 (x.fst ++ (ByteArray.mk #[(46 : UInt8)]).data.toList)
 (strZ
 [(ByteArray.mk #[(97 : UInt8)]).data.toList,
 (ByteArray.mk
 #[(101 : UInt8), (120 : UInt8), (97 : UInt8), (109 : UInt8),
 (112 : UInt8), (108 : UInt8), (101 : UInt8)]).data.toList,
 (ByteArray.mk #[(120 : UInt8), (45 : UInt8), (49 : UInt8)]).data.toList,
 (ByteArray.mk #[(120 : UInt8), (110 : UInt8), (45 : UInt8)]).data.toList,
 (ByteArray.mk
 #[(120 : UInt8), (110 : UInt8), (45 : UInt8), (45 : UInt8),
 (97 : UInt8)]).data.toList,
 (ByteArray.mk #[(111 : UInt8), (114 : UInt8), (103 : UInt8)]).data.toList,
 (ByteArray.mk #[(110 : UInt8), (48 : UInt8)]).data.toList,
 (ByteArray.mk #[(99 : UInt8), (45 : UInt8)]).data.toList,
 (ByteArray.mk #[(45 : UInt8)]).data.toList]
 (lowN (intZ ns x.snd.snd.snd) (9 : Int)))
 (x_1.fst ++
 [zByte
 (byteZ
 (strZ
 [(ByteArray.mk #[(97 : UInt8)]).data.toList,
 (ByteArray.mk
 #[(101 : UInt8), (120 : UInt8), (97 : UInt8), (109 : UInt8),
 (112 : UInt8), (108 : UInt8), (101 : UInt8)]).data.toList,
 (ByteArray.mk
 #[(120 : UInt8), (45 : UInt8), (49 : UInt8)]).data.toList,
 (ByteArray.mk
 #[(120 : UInt8), (110 : UInt8), (45 : UInt8)]).data.toList,
 (ByteArray.mk
 #[(120 : UInt8), (110 : UInt8), (45 : UInt8), (45 : UInt8),
 (97 : UInt8)]).data.toList,
 (ByteArray.mk
 #[(111 : UInt8), (114 : UInt8), (103 : UInt8)]).data.toList,
 (ByteArray.mk #[(110 : UInt8), (48 : UInt8)]).data.toList,
 (ByteArray.mk #[(99 : UInt8), (45 : UInt8)]).data.toList,
 (ByteArray.mk #[(45 : UInt8)]).data.toList]
 (lowN (intZ ns x.snd.snd.snd)
 (9 : Int)))
 x_1.snd)])
 (x_1.snd + (1 : Int)) ∧
 (↑(List.length
 (strZ
 [(ByteArray.mk #[(97 : UInt8)]).data.toList,
 (ByteArray.mk
 #[(101 : UInt8), (120 : UInt8), (97 : UInt8), (109 : UInt8),
 (112 : UInt8), (108 : UInt8), (101 : UInt8)]).data.toList,
 (ByteArray.mk
 #[(120 : UInt8), (45 : UInt8), (49 : UInt8)]).data.toList,
 (ByteArray.mk
 #[(120 : UInt8), (110 : UInt8), (45 : UInt8)]).data.toList,
 (ByteArray.mk
 #[(120 : UInt8), (110 : UInt8), (45 : UInt8), (45 : UInt8),
 (97 : UInt8)]).data.toList,
 (ByteArray.mk
 #[(111 : UInt8), (114 : UInt8), (103 : UInt8)]).data.toList,
 (ByteArray.mk #[(110 : UInt8), (48 : UInt8)]).data.toList,
 (ByteArray.mk #[(99 : UInt8), (45 : UInt8)]).data.toList,
 (ByteArray.mk #[(45 : UInt8)]).data.toList]
 (lowN (intZ ns x.snd.snd.snd)
 (9 : Int)))) -
 (x_1.snd + (1 : Int))).toNat <
 (↑(List.length
 (strZ
 [(ByteArray.mk #[(97 : UInt8)]).data.toList,
 (ByteArray.mk
 #[(101 : UInt8), (120 : UInt8), (97 : UInt8), (109 : UInt8),
 (112 : UInt8), (108 : UInt8), (101 : UInt8)]).data.toList,
 (ByteArray.mk
 #[(120 : UInt8), (45 : UInt8), (49 : UInt8)]).data.toList,
 (ByteArray.mk
 #[(120 : UInt8), (110 : UInt8), (45 : UInt8)]).data.toList,
 (ByteArray.mk
 #[(120 : UInt8), (110 : UInt8), (45 : UInt8), (45 : UInt8),
 (97 : UInt8)]).data.toList,
 (ByteArray.mk
 #[(111 : UInt8), (114 : UInt8), (103 : UInt8)]).data.toList,
 (ByteArray.mk #[(110 : UInt8), (48 : UInt8)]).data.toList,
 (ByteArray.mk #[(99 : UInt8), (45 : UInt8)]).data.toList,
 (ByteArray.mk #[(45 : UInt8)]).data.toList]
 (lowN (intZ ns x.snd.snd.snd)
 (9 : Int)))) -
 x_1.snd).toNat))) ∧
 (decide
 (x_1.snd <
 lenZ
 (strZ
 [(ByteArray.mk #[(97 : UInt8)]).data.toList,
 (ByteArray.mk
 #[(101 : UInt8), (120 : UInt8), (97 : UInt8), (109 : UInt8), (112 : UInt8), (108 : UInt8),
 (101 : UInt8)]).data.toList,
 (ByteArray.mk #[(120 : UInt8), (45 : UInt8), (49 : UInt8)]).data.toList,
 (ByteArray.mk #[(120 : UInt8), (110 : UInt8), (45 : UInt8)]).data.toList,
 (ByteArray.mk #[(120 : UInt8), (110 : UInt8), (45 : UInt8), (45 : UInt8), (97 : UInt8)]).data.toList,
 (ByteArray.mk #[(111 : UInt8), (114 : UInt8), (103 : UInt8)]).data.toList,
 (ByteArray.mk #[(110 : UInt8), (48 : UInt8)]).data.toList,
 (ByteArray.mk #[(99 : UInt8), (45 : UInt8)]).data.toList, (ByteArray.mk #[(45 : UInt8)]).data.toList]
 (lowN (intZ ns x.snd.snd.snd) (9 : Int)))) =
 false →
 inI64 (x.snd.snd.snd + (1 : Int)) ∧
 VS.mk []
 [(nat_lit 0, PV.row nl (BRow.ints Go.IntKind.i64 ns) (0 : Nat)),
 (nat_lit 1, PV.vec nl2 (1 : Nat) shp (0 : Nat)), (nat_lit 2, PV.bool g),
 (nat_lit 6, PV.bool false),
 (nat_lit 7,
 PV.row false
 (BRow.strs
 [(ByteArray.mk #[(97 : UInt8)]).data.toList,
 (ByteArray.mk
 #[(101 : UInt8), (120 : UInt8), (97 : UInt8), (109 : UInt8), (112 : UInt8), (108 : UInt8),
 (101 : UInt8)]).data.toList,
 (ByteArray.mk #[(120 : UInt8), (45 : UInt8), (49 : UInt8)]).data.toList,
 (ByteArray.mk #[(120 : UInt8), (110 : UInt8), (45 : UInt8)]).data.toList,
 (ByteArray.mk
 #[(120 : UInt8), (110 : UInt8), (45 : UInt8), (45 : UInt8), (97 : UInt8)]).data.toList,
 (ByteArray.mk #[(111 : UInt8), (114 : UInt8), (103 : UInt8)]).data.toList,
 (ByteArray.mk #[(110 : UInt8), (48 : UInt8)]).data.toList,
 (ByteArray.mk #[(99 : UInt8), (45 : UInt8)]).data.toList,
 (ByteArray.mk #[(45 : UInt8)]).data.toList])
 (0 : Nat)),
 ((8 : Nat), PV.str x_1.fst),
 ((9 : Nat),
 PV.str
 (x.snd.fst ++ (ByteArray.mk #[(46 : UInt8)]).data.toList ++
 strZ
 [(ByteArray.mk #[(97 : UInt8)]).data.toList,
 (ByteArray.mk
 #[(101 : UInt8), (120 : UInt8), (97 : UInt8), (109 : UInt8), (112 : UInt8), (108 : UInt8),
 (101 : UInt8)]).data.toList,
 (ByteArray.mk #[(120 : UInt8), (45 : UInt8), (49 : UInt8)]).data.toList,
 (ByteArray.mk #[(120 : UInt8), (110 : UInt8), (45 : UInt8)]).data.toList,
 (ByteArray.mk
 #[(120 : UInt8), (110 : UInt8), (45 : UInt8), (45 : UInt8), (97 : UInt8)]).data.toList,
 (ByteArray.mk #[(111 : UInt8), (114 : UInt8), (103 : UInt8)]).data.toList,
 (ByteArray.mk #[(110 : UInt8), (48 : UInt8)]).data.toList,
 (ByteArray.mk #[(99 : UInt8), (45 : UInt8)]).data.toList,
 (ByteArray.mk #[(45 : UInt8)]).data.toList]
 (lowN (intZ ns x.snd.snd.snd) (9 : Int)))),
 ((10 : Nat),
 PV.bool
 (bif x.snd.snd.fst then true
 else
 decide
 (strZ
 [(ByteArray.mk #[(97 : UInt8)]).data.toList,
 (ByteArray.mk
 #[(101 : UInt8), (120 : UInt8), (97 : UInt8), (109 : UInt8), (112 : UInt8),
 (108 : UInt8), (101 : UInt8)]).data.toList,
 (ByteArray.mk #[(120 : UInt8), (45 : UInt8), (49 : UInt8)]).data.toList,
 (ByteArray.mk #[(120 : UInt8), (110 : UInt8), (45 : UInt8)]).data.toList,
 (ByteArray.mk
 #[(120 : UInt8), (110 : UInt8), (45 : UInt8), (45 : UInt8),
 (97 : UInt8)]).data.toList,
 (ByteArray.mk #[(111 : UInt8), (114 : UInt8), (103 : UInt8)]).data.toList,
 (ByteArray.mk #[(110 : UInt8), (48 : UInt8)]).data.toList,
 (ByteArray.mk #[(99 : UInt8), (45 : UInt8)]).data.toList,
 (ByteArray.mk #[(45 : UInt8)]).data.toList]
 (lowN (intZ ns x.snd.snd.snd) (9 : Int)) =
 (ByteArray.mk
 #[(120 : UInt8), (110 : UInt8), (45 : UInt8), (45 : UInt8), (97 : UInt8)]).data.toList))),
 ((11 : Nat), PV.int Go.IntKind.i64 (x.snd.snd.snd + (1 : Int))), ((12 : Nat), PV.undef),
 ((13 : Nat), PV.undef), ((14 : Nat), PV.undef), (nat_lit 15, PV.undef),
 (nat_lit 16, PV.undef),
 (nat_lit 24,
 PV.bool
 (bif decide (Int.ofNat ns.length < (1 : Int)) then true
 else decide ((6 : Int) < Int.ofNat ns.length))),
 ((30 : Nat), PV.undef), ((47 : Nat), PV.undef), ((58 : Nat), PV.undef),
 ((72 : Nat), PV.undef), ((90 : Nat), PV.undef), (nat_lit 105, PV.undef)]
 [] =
 VS.mk []
 [(nat_lit 0, PV.row nl (BRow.ints Go.IntKind.i64 ns) (0 : Nat)),
 (nat_lit 1, PV.vec nl2 (1 : Nat) shp (0 : Nat)), (nat_lit 2, PV.bool g),
 (nat_lit 6, PV.bool false),
 (nat_lit 7,
 PV.row false
 (BRow.strs
 [(ByteArray.mk #[(97 : UInt8)]).data.toList,
 (ByteArray.mk
 #[(101 : UInt8), (120 : UInt8), (97 : UInt8), (109 : UInt8), (112 : UInt8), (108 : UInt8),
 (101 : UInt8)]).data.toList,
 (ByteArray.mk #[(120 : UInt8), (45 : UInt8), (49 : UInt8)]).data.toList,
 (ByteArray.mk #[(120 : UInt8), (110 : UInt8), (45 : UInt8)]).data.toList,
 (ByteArray.mk
 #[(120 : UInt8), (110 : UInt8), (45 : UInt8), (45 : UInt8), (97 : UInt8)]).data.toList,
 (ByteArray.mk #[(111 : UInt8), (114 : UInt8), (103 : UInt8)]).data.toList,
 (ByteArray.mk #[(110 : UInt8), (48 : UInt8)]).data.toList,
 (ByteArray.mk #[(99 : UInt8), (45 : UInt8)]).data.toList,
 (ByteArray.mk #[(45 : UInt8)]).data.toList])
 (0 : Nat)),
 ((8 : Nat), PV.str x_1.fst),
 ((9 : Nat),
 PV.str
 (x.snd.fst ++ (ByteArray.mk #[(46 : UInt8)]).data.toList ++
 strZ
 [(ByteArray.mk #[(97 : UInt8)]).data.toList,
 (ByteArray.mk
 #[(101 : UInt8), (120 : UInt8), (97 : UInt8), (109 : UInt8), (112 : UInt8), (108 : UInt8),
 (101 : UInt8)]).data.toList,
 (ByteArray.mk #[(120 : UInt8), (45 : UInt8), (49 : UInt8)]).data.toList,
 (ByteArray.mk #[(120 : UInt8), (110 : UInt8), (45 : UInt8)]).data.toList,
 (ByteArray.mk
 #[(120 : UInt8), (110 : UInt8), (45 : UInt8), (45 : UInt8), (97 : UInt8)]).data.toList,
 (ByteArray.mk #[(111 : UInt8), (114 : UInt8), (103 : UInt8)]).data.toList,
 (ByteArray.mk #[(110 : UInt8), (48 : UInt8)]).data.toList,
 (ByteArray.mk #[(99 : UInt8), (45 : UInt8)]).data.toList,
 (ByteArray.mk #[(45 : UInt8)]).data.toList]
 (lowN (intZ ns x.snd.snd.snd) (9 : Int)))),
 ((10 : Nat),
 PV.bool
 (bif x.snd.snd.fst then true
 else
 decide
 (strZ
 [(ByteArray.mk #[(97 : UInt8)]).data.toList,
 (ByteArray.mk
 #[(101 : UInt8), (120 : UInt8), (97 : UInt8), (109 : UInt8), (112 : UInt8),
 (108 : UInt8), (101 : UInt8)]).data.toList,
 (ByteArray.mk #[(120 : UInt8), (45 : UInt8), (49 : UInt8)]).data.toList,
 (ByteArray.mk #[(120 : UInt8), (110 : UInt8), (45 : UInt8)]).data.toList,
 (ByteArray.mk
 #[(120 : UInt8), (110 : UInt8), (45 : UInt8), (45 : UInt8),
 (97 : UInt8)]).data.toList,
 (ByteArray.mk #[(111 : UInt8), (114 : UInt8), (103 : UInt8)]).data.toList,
 (ByteArray.mk #[(110 : UInt8), (48 : UInt8)]).data.toList,
 (ByteArray.mk #[(99 : UInt8), (45 : UInt8)]).data.toList,
 (ByteArray.mk #[(45 : UInt8)]).data.toList]
 (lowN (intZ ns x.snd.snd.snd) (9 : Int)) =
 (ByteArray.mk
 #[(120 : UInt8), (110 : UInt8), (45 : UInt8), (45 : UInt8), (97 : UInt8)]).data.toList))),
 ((11 : Nat), PV.int Go.IntKind.i64 (x.snd.snd.snd + (1 : Int))), ((12 : Nat), PV.undef),
 ((13 : Nat), PV.undef), ((14 : Nat), PV.undef), (nat_lit 15, PV.undef),
 (nat_lit 16, PV.undef),
 (nat_lit 24,
 PV.bool
 (bif decide (Int.ofNat ns.length < (1 : Int)) then true
 else decide ((6 : Int) < Int.ofNat ns.length))),
 ((30 : Nat), PV.undef), ((47 : Nat), PV.undef), ((58 : Nat), PV.undef),
 ((72 : Nat), PV.undef), ((90 : Nat), PV.undef), (nat_lit 105, PV.undef)]
 [] ∧
 NamO ns x_1.fst
 (x.snd.fst ++ (ByteArray.mk #[(46 : UInt8)]).data.toList ++
 strZ
 [(ByteArray.mk #[(97 : UInt8)]).data.toList,
 (ByteArray.mk
 #[(101 : UInt8), (120 : UInt8), (97 : UInt8), (109 : UInt8), (112 : UInt8), (108 : UInt8),
 (101 : UInt8)]).data.toList,
 (ByteArray.mk #[(120 : UInt8), (45 : UInt8), (49 : UInt8)]).data.toList,
 (ByteArray.mk #[(120 : UInt8), (110 : UInt8), (45 : UInt8)]).data.toList,
 (ByteArray.mk #[(120 : UInt8), (110 : UInt8), (45 : UInt8), (45 : UInt8), (97 : UInt8)]).data.toList,
 (ByteArray.mk #[(111 : UInt8), (114 : UInt8), (103 : UInt8)]).data.toList,
 (ByteArray.mk #[(110 : UInt8), (48 : UInt8)]).data.toList,
 (ByteArray.mk #[(99 : UInt8), (45 : UInt8)]).data.toList, (ByteArray.mk #[(45 : UInt8)]).data.toList]
 (lowN (intZ ns x.snd.snd.snd) (9 : Int)))
 (bif x.snd.snd.fst then true
 else
 decide
 (strZ
 [(ByteArray.mk #[(97 : UInt8)]).data.toList,
 (ByteArray.mk
 #[(101 : UInt8), (120 : UInt8), (97 : UInt8), (109 : UInt8), (112 : UInt8), (108 : UInt8),
 (101 : UInt8)]).data.toList,
 (ByteArray.mk #[(120 : UInt8), (45 : UInt8), (49 : UInt8)]).data.toList,
 (ByteArray.mk #[(120 : UInt8), (110 : UInt8), (45 : UInt8)]).data.toList,
 (ByteArray.mk
 #[(120 : UInt8), (110 : UInt8), (45 : UInt8), (45 : UInt8), (97 : UInt8)]).data.toList,
 (ByteArray.mk #[(111 : UInt8), (114 : UInt8), (103 : UInt8)]).data.toList,
 (ByteArray.mk #[(110 : UInt8), (48 : UInt8)]).data.toList,
 (ByteArray.mk #[(99 : UInt8), (45 : UInt8)]).data.toList,
 (ByteArray.mk #[(45 : UInt8)]).data.toList]
 (lowN (intZ ns x.snd.snd.snd) (9 : Int)) =
 (ByteArray.mk #[(120 : UInt8), (110 : UInt8), (45 : UInt8), (45 : UInt8), (97 : UInt8)]).data.toList))
 (x.snd.snd.snd + (1 : Int)) ∧
 (↑ns.length - (x.snd.snd.snd + (1 : Int))).toNat < (↑ns.length - x.snd.snd.snd).toNat)) ∧
 (decide ((0 : Int) < x.snd.snd.snd) = false →
 List.length x.snd.fst +
 List.length
 (strZ
 [(ByteArray.mk #[(97 : UInt8)]).data.toList,
 (ByteArray.mk
 #[(101 : UInt8), (120 : UInt8), (97 : UInt8), (109 : UInt8), (112 : UInt8), (108 : UInt8),
 (101 : UInt8)]).data.toList,
 (ByteArray.mk #[(120 : UInt8), (45 : UInt8), (49 : UInt8)]).data.toList,
 (ByteArray.mk #[(120 : UInt8), (110 : UInt8), (45 : UInt8)]).data.toList,
 (ByteArray.mk #[(120 : UInt8), (110 : UInt8), (45 : UInt8), (45 : UInt8), (97 : UInt8)]).data.toList,
 (ByteArray.mk #[(111 : UInt8), (114 : UInt8), (103 : UInt8)]).data.toList,
 (ByteArray.mk #[(110 : UInt8), (48 : UInt8)]).data.toList, (ByteArray.mk #[(99 : UInt8), (45 : UInt8)]).data.toList,
 (ByteArray.mk #[(45 : UInt8)]).data.toList]
 (lowN (intZ ns x.snd.snd.snd) (9 : Int))) ≤
 Go.Vc.maxLen ∧
 VS.mk []
 [(nat_lit 0, PV.row nl (BRow.ints Go.IntKind.i64 ns) (0 : Nat)),
 (nat_lit 1, PV.vec nl2 (1 : Nat) shp (0 : Nat)), (nat_lit 2, PV.bool g), (nat_lit 6, PV.bool false),
 (nat_lit 7,
 PV.row false
 (BRow.strs
 [(ByteArray.mk #[(97 : UInt8)]).data.toList,
 (ByteArray.mk
 #[(101 : UInt8), (120 : UInt8), (97 : UInt8), (109 : UInt8), (112 : UInt8), (108 : UInt8),
 (101 : UInt8)]).data.toList,
 (ByteArray.mk #[(120 : UInt8), (45 : UInt8), (49 : UInt8)]).data.toList,
 (ByteArray.mk #[(120 : UInt8), (110 : UInt8), (45 : UInt8)]).data.toList,
 (ByteArray.mk #[(120 : UInt8), (110 : UInt8), (45 : UInt8), (45 : UInt8), (97 : UInt8)]).data.toList,
 (ByteArray.mk #[(111 : UInt8), (114 : UInt8), (103 : UInt8)]).data.toList,
 (ByteArray.mk #[(110 : UInt8), (48 : UInt8)]).data.toList, (ByteArray.mk #[(99 : UInt8), (45 : UInt8)]).data.toList,
 (ByteArray.mk #[(45 : UInt8)]).data.toList])
 (0 : Nat)),
 ((8 : Nat), PV.str x.fst),
 ((9 : Nat),
 PV.str
 (x.snd.fst ++
 strZ
 [(ByteArray.mk #[(97 : UInt8)]).data.toList,
 (ByteArray.mk
 #[(101 : UInt8), (120 : UInt8), (97 : UInt8), (109 : UInt8), (112 : UInt8), (108 : UInt8),
 (101 : UInt8)]).data.toList,
 (ByteArray.mk #[(120 : UInt8), (45 : UInt8), (49 : UInt8)]).data.toList,
 (ByteArray.mk #[(120 : UInt8), (110 : UInt8), (45 : UInt8)]).data.toList,
 (ByteArray.mk #[(120 : UInt8), (110 : UInt8), (45 : UInt8), (45 : UInt8), (97 : UInt8)]).data.toList,
 (ByteArray.mk #[(111 : UInt8), (114 : UInt8), (103 : UInt8)]).data.toList,
 (ByteArray.mk #[(110 : UInt8), (48 : UInt8)]).data.toList,
 (ByteArray.mk #[(99 : UInt8), (45 : UInt8)]).data.toList, (ByteArray.mk #[(45 : UInt8)]).data.toList]
 (lowN (intZ ns x.snd.snd.snd) (9 : Int)))),
 ((10 : Nat),
 PV.bool
 (bif x.snd.snd.fst then true
 else
 decide
 (strZ
 [(ByteArray.mk #[(97 : UInt8)]).data.toList,
 (ByteArray.mk
 #[(101 : UInt8), (120 : UInt8), (97 : UInt8), (109 : UInt8), (112 : UInt8), (108 : UInt8),
 (101 : UInt8)]).data.toList,
 (ByteArray.mk #[(120 : UInt8), (45 : UInt8), (49 : UInt8)]).data.toList,
 (ByteArray.mk #[(120 : UInt8), (110 : UInt8), (45 : UInt8)]).data.toList,
 (ByteArray.mk #[(120 : UInt8), (110 : UInt8), (45 : UInt8), (45 : UInt8), (97 : UInt8)]).data.toList,
 (ByteArray.mk #[(111 : UInt8), (114 : UInt8), (103 : UInt8)]).data.toList,
 (ByteArray.mk #[(110 : UInt8), (48 : UInt8)]).data.toList,
 (ByteArray.mk #[(99 : UInt8), (45 : UInt8)]).data.toList, (ByteArray.mk #[(45 : UInt8)]).data.toList]
 (lowN (intZ ns x.snd.snd.snd) (9 : Int)) =
 (ByteArray.mk #[(120 : UInt8), (110 : UInt8), (45 : UInt8), (45 : UInt8), (97 : UInt8)]).data.toList))),
 ((11 : Nat), PV.int Go.IntKind.i64 x.snd.snd.snd),
 ((12 : Nat),
 PV.str
 (strZ
 [(ByteArray.mk #[(97 : UInt8)]).data.toList,
 (ByteArray.mk
 #[(101 : UInt8), (120 : UInt8), (97 : UInt8), (109 : UInt8), (112 : UInt8), (108 : UInt8),
 (101 : UInt8)]).data.toList,
 (ByteArray.mk #[(120 : UInt8), (45 : UInt8), (49 : UInt8)]).data.toList,
 (ByteArray.mk #[(120 : UInt8), (110 : UInt8), (45 : UInt8)]).data.toList,
 (ByteArray.mk #[(120 : UInt8), (110 : UInt8), (45 : UInt8), (45 : UInt8), (97 : UInt8)]).data.toList,
 (ByteArray.mk #[(111 : UInt8), (114 : UInt8), (103 : UInt8)]).data.toList,
 (ByteArray.mk #[(110 : UInt8), (48 : UInt8)]).data.toList, (ByteArray.mk #[(99 : UInt8), (45 : UInt8)]).data.toList,
 (ByteArray.mk #[(45 : UInt8)]).data.toList]
 (lowN (intZ ns x.snd.snd.snd) (9 : Int)))),
 ((13 : Nat), PV.int Go.IntKind.i64 (0 : Int)), ((14 : Nat), PV.undef), (nat_lit 15, PV.undef),
 (nat_lit 16, PV.undef),
 (nat_lit 24,
 PV.bool (bif decide (Int.ofNat ns.length < (1 : Int)) then true else decide ((6 : Int) < Int.ofNat ns.length))),
 ((30 : Nat), PV.bool (decide (x.snd.snd.snd < Int.ofNat ns.length))),
 ((47 : Nat), PV.bool (decide ((0 : Int) < x.snd.snd.snd))), ((58 : Nat), PV.undef),
 ((72 : Nat), PV.undef), ((90 : Nat), PV.undef), (nat_lit 105, PV.undef)]
 [] =
 VS.mk []
 [(nat_lit 0, PV.row nl (BRow.ints Go.IntKind.i64 ns) (0 : Nat)),
 (nat_lit 1, PV.vec nl2 (1 : Nat) shp (0 : Nat)), (nat_lit 2, PV.bool g), (nat_lit 6, PV.bool false),
 (nat_lit 7,
 PV.row false
 (BRow.strs
 [(ByteArray.mk #[(97 : UInt8)]).data.toList,
 (ByteArray.mk
 #[(101 : UInt8), (120 : UInt8), (97 : UInt8), (109 : UInt8), (112 : UInt8), (108 : UInt8),
 (101 : UInt8)]).data.toList,
 (ByteArray.mk #[(120 : UInt8), (45 : UInt8), (49 : UInt8)]).data.toList,
 (ByteArray.mk #[(120 : UInt8), (110 : UInt8), (45 : UInt8)]).data.toList,
 (ByteArray.mk #[(120 : UInt8), (110 : UInt8), (45 : UInt8), (45 : UInt8), (97 : UInt8)]).data.toList,
 (ByteArray.mk #[(111 : UInt8), (114 : UInt8), (103 : UInt8)]).data.toList,
 (ByteArray.mk #[(110 : UInt8), (48 : UInt8)]).data.toList, (ByteArray.mk #[(99 : UInt8), (45 : UInt8)]).data.toList,
 (ByteArray.mk #[(45 : UInt8)]).data.toList])
 (0 : Nat)),
 ((8 : Nat), PV.str x.fst),
 ((9 : Nat),
 PV.str
 (x.snd.fst ++
 strZ
 [(ByteArray.mk #[(97 : UInt8)]).data.toList,
 (ByteArray.mk
 #[(101 : UInt8), (120 : UInt8), (97 : UInt8), (109 : UInt8), (112 : UInt8), (108 : UInt8),
 (101 : UInt8)]).data.toList,
 (ByteArray.mk #[(120 : UInt8), (45 : UInt8), (49 : UInt8)]).data.toList,
 (ByteArray.mk #[(120 : UInt8), (110 : UInt8), (45 : UInt8)]).data.toList,
 (ByteArray.mk #[(120 : UInt8), (110 : UInt8), (45 : UInt8), (45 : UInt8), (97 : UInt8)]).data.toList,
 (ByteArray.mk #[(111 : UInt8), (114 : UInt8), (103 : UInt8)]).data.toList,
 (ByteArray.mk #[(110 : UInt8), (48 : UInt8)]).data.toList,
 (ByteArray.mk #[(99 : UInt8), (45 : UInt8)]).data.toList, (ByteArray.mk #[(45 : UInt8)]).data.toList]
 (lowN (intZ ns x.snd.snd.snd) (9 : Int)))),
 ((10 : Nat),
 PV.bool
 (bif x.snd.snd.fst then true
 else
 decide
 (strZ
 [(ByteArray.mk #[(97 : UInt8)]).data.toList,
 (ByteArray.mk
 #[(101 : UInt8), (120 : UInt8), (97 : UInt8), (109 : UInt8), (112 : UInt8), (108 : UInt8),
 (101 : UInt8)]).data.toList,
 (ByteArray.mk #[(120 : UInt8), (45 : UInt8), (49 : UInt8)]).data.toList,
 (ByteArray.mk #[(120 : UInt8), (110 : UInt8), (45 : UInt8)]).data.toList,
 (ByteArray.mk #[(120 : UInt8), (110 : UInt8), (45 : UInt8), (45 : UInt8), (97 : UInt8)]).data.toList,
 (ByteArray.mk #[(111 : UInt8), (114 : UInt8), (103 : UInt8)]).data.toList,
 (ByteArray.mk #[(110 : UInt8), (48 : UInt8)]).data.toList,
 (ByteArray.mk #[(99 : UInt8), (45 : UInt8)]).data.toList, (ByteArray.mk #[(45 : UInt8)]).data.toList]
 (lowN (intZ ns x.snd.snd.snd) (9 : Int)) =
 (ByteArray.mk #[(120 : UInt8), (110 : UInt8), (45 : UInt8), (45 : UInt8), (97 : UInt8)]).data.toList))),
 ((11 : Nat), PV.int Go.IntKind.i64 x.snd.snd.snd),
 ((12 : Nat),
 PV.str
 (strZ
 [(ByteArray.mk #[(97 : UInt8)]).data.toList,
 (ByteArray.mk
 #[(101 : UInt8), (120 : UInt8), (97 : UInt8), (109 : UInt8), (112 : UInt8), (108 : UInt8),
 (101 : UInt8)]).data.toList,
 (ByteArray.mk #[(120 : UInt8), (45 : UInt8), (49 : UInt8)]).data.toList,
 (ByteArray.mk #[(120 : UInt8), (110 : UInt8), (45 : UInt8)]).data.toList,
 (ByteArray.mk #[(120 : UInt8), (110 : UInt8), (45 : UInt8), (45 : UInt8), (97 : UInt8)]).data.toList,
 (ByteArray.mk #[(111 : UInt8), (114 : UInt8), (103 : UInt8)]).data.toList,
 (ByteArray.mk #[(110 : UInt8), (48 : UInt8)]).data.toList, (ByteArray.mk #[(99 : UInt8), (45 : UInt8)]).data.toList,
 (ByteArray.mk #[(45 : UInt8)]).data.toList]
 (lowN (intZ ns x.snd.snd.snd) (9 : Int)))),
 ((13 : Nat), PV.int Go.IntKind.i64 (0 : Int)), ((14 : Nat), PV.undef), (nat_lit 15, PV.undef),
 (nat_lit 16, PV.undef),
 (nat_lit 24,
 PV.bool (bif decide (Int.ofNat ns.length < (1 : Int)) then true else decide ((6 : Int) < Int.ofNat ns.length))),
 ((30 : Nat), PV.bool (decide (x.snd.snd.snd < Int.ofNat ns.length))),
 ((47 : Nat), PV.bool (decide ((0 : Int) < x.snd.snd.snd))), ((58 : Nat), PV.undef),
 ((72 : Nat), PV.undef), ((90 : Nat), PV.undef), (nat_lit 105, PV.undef)]
 [] ∧
 NamI x.fst
 (strZ
 [(ByteArray.mk #[(97 : UInt8)]).data.toList,
 (ByteArray.mk
 #[(101 : UInt8), (120 : UInt8), (97 : UInt8), (109 : UInt8), (112 : UInt8), (108 : UInt8),
 (101 : UInt8)]).data.toList,
 (ByteArray.mk #[(120 : UInt8), (45 : UInt8), (49 : UInt8)]).data.toList,
 (ByteArray.mk #[(120 : UInt8), (110 : UInt8), (45 : UInt8)]).data.toList,
 (ByteArray.mk #[(120 : UInt8), (110 : UInt8), (45 : UInt8), (45 : UInt8), (97 : UInt8)]).data.toList,
 (ByteArray.mk #[(111 : UInt8), (114 : UInt8), (103 : UInt8)]).data.toList,
 (ByteArray.mk #[(110 : UInt8), (48 : UInt8)]).data.toList, (ByteArray.mk #[(99 : UInt8), (45 : UInt8)]).data.toList,
 (ByteArray.mk #[(45 : UInt8)]).data.toList]
 (lowN (intZ ns x.snd.snd.snd) (9 : Int)))
 x.fst (0 : Int) ∧
 ∀ (x_1 : Bs × Int),
 NamI x.fst
 (strZ
 [(ByteArray.mk #[(97 : UInt8)]).data.toList,
 (ByteArray.mk
 #[(101 : UInt8), (120 : UInt8), (97 : UInt8), (109 : UInt8), (112 : UInt8), (108 : UInt8),
 (101 : UInt8)]).data.toList,
 (ByteArray.mk #[(120 : UInt8), (45 : UInt8), (49 : UInt8)]).data.toList,
 (ByteArray.mk #[(120 : UInt8), (110 : UInt8), (45 : UInt8)]).data.toList,
 (ByteArray.mk #[(120 : UInt8), (110 : UInt8), (45 : UInt8), (45 : UInt8), (97 : UInt8)]).data.toList,
 (ByteArray.mk #[(111 : UInt8), (114 : UInt8), (103 : UInt8)]).data.toList,
 (ByteArray.mk #[(110 : UInt8), (48 : UInt8)]).data.toList, (ByteArray.mk #[(99 : UInt8), (45 : UInt8)]).data.toList,
 (ByteArray.mk #[(45 : UInt8)]).data.toList]
 (lowN (intZ ns x.snd.snd.snd) (9 : Int)))
 x_1.fst x_1.snd →
 (decide
 (x_1.snd <
 lenZ
 (strZ
 [(ByteArray.mk #[(97 : UInt8)]).data.toList,
 (ByteArray.mk
 #[(101 : UInt8), (120 : UInt8), (97 : UInt8), (109 : UInt8), (112 : UInt8), (108 : UInt8),
 (101 : UInt8)]).data.toList,
 (ByteArray.mk #[(120 : UInt8), (45 : UInt8), (49 : UInt8)]).data.toList,
 (ByteArray.mk #[(120 : UInt8), (110 : UInt8), (45 : UInt8)]).data.toList,
 (ByteArray.mk #[(120 : UInt8), (110 : UInt8), (45 : UInt8), (45 : UInt8), (97 : UInt8)]).data.toList,
 (ByteArray.mk #[(111 : UInt8), (114 : UInt8), (103 : UInt8)]).data.toList,
 (ByteArray.mk #[(110 : UInt8), (48 : UInt8)]).data.toList,
 (ByteArray.mk #[(99 : UInt8), (45 : UInt8)]).data.toList, (ByteArray.mk #[(45 : UInt8)]).data.toList]
 (lowN (intZ ns x.snd.snd.snd) (9 : Int)))) =
 true →
 within x_1.snd
 (lenZ
 (strZ
 [(ByteArray.mk #[(97 : UInt8)]).data.toList,
 (ByteArray.mk
 #[(101 : UInt8), (120 : UInt8), (97 : UInt8), (109 : UInt8), (112 : UInt8), (108 : UInt8),
 (101 : UInt8)]).data.toList,
 (ByteArray.mk #[(120 : UInt8), (45 : UInt8), (49 : UInt8)]).data.toList,
 (ByteArray.mk #[(120 : UInt8), (110 : UInt8), (45 : UInt8)]).data.toList,
 (ByteArray.mk #[(120 : UInt8), (110 : UInt8), (45 : UInt8), (45 : UInt8), (97 : UInt8)]).data.toList,
 (ByteArray.mk #[(111 : UInt8), (114 : UInt8), (103 : UInt8)]).data.toList,
 (ByteArray.mk #[(110 : UInt8), (48 : UInt8)]).data.toList,
 (ByteArray.mk #[(99 : UInt8), (45 : UInt8)]).data.toList, (ByteArray.mk #[(45 : UInt8)]).data.toList]
 (lowN (intZ ns x.snd.snd.snd) (9 : Int)))) ∧
 ((bif
 bif g then
 decide
 ((97 : Int) ≤
 byteZ
 (strZ
 [(ByteArray.mk #[(97 : UInt8)]).data.toList,
 (ByteArray.mk
 #[(101 : UInt8), (120 : UInt8), (97 : UInt8), (109 : UInt8), (112 : UInt8), (108 : UInt8),
 (101 : UInt8)]).data.toList,
 (ByteArray.mk #[(120 : UInt8), (45 : UInt8), (49 : UInt8)]).data.toList,
 (ByteArray.mk #[(120 : UInt8), (110 : UInt8), (45 : UInt8)]).data.toList,
 (ByteArray.mk
 #[(120 : UInt8), (110 : UInt8), (45 : UInt8), (45 : UInt8), (97 : UInt8)]).data.toList,
 (ByteArray.mk #[(111 : UInt8), (114 : UInt8), (103 : UInt8)]).data.toList,
 (ByteArray.mk #[(110 : UInt8), (48 : UInt8)]).data.toList,
 (ByteArray.mk #[(99 : UInt8), (45 : UInt8)]).data.toList,
 (ByteArray.mk #[(45 : UInt8)]).data.toList]
 (lowN (intZ ns x.snd.snd.snd) (9 : Int)))
 x_1.snd)
 else false then
 decide
 (byteZ
 (strZ
 [(ByteArray.mk #[(97 : UInt8)]).data.toList,
 (ByteArray.mk
 #[(101 : UInt8), (120 : UInt8), (97 : UInt8), (109 : UInt8), (112 : UInt8), (108 : UInt8),
 (101 : UInt8)]).data.toList,
 (ByteArray.mk #[(120 : UInt8), (45 : UInt8), (49 : UInt8)]).data.toList,
 (ByteArray.mk #[(120 : UInt8), (110 : UInt8), (45 : UInt8)]).data.toList,
 (ByteArray.mk
 #[(120 : UInt8), (110 : UInt8), (45 : UInt8), (45 : UInt8), (97 : UInt8)]).data.toList,
 (ByteArray.mk #[(111 : UInt8), (114 : UInt8), (103 : UInt8)]).data.toList,
 (ByteArray.mk #[(110 : UInt8), (48 : UInt8)]).data.toList,
 (ByteArray.mk #[(99 : UInt8), (45 : UInt8)]).data.toList,
 (ByteArray.mk #[(45 : UInt8)]).data.toList]
 (lowN (intZ ns x.snd.snd.snd) (9 : Int)))
 x_1.snd ≤
 (122 : Int))
 else false) =
 true →
 inI64 ((5 : Int) * x.snd.snd.snd) ∧
 inI64 ((5 : Int) * x.snd.snd.snd + x_1.snd) ∧
 (decide ((5 : Int) * x.snd.snd.snd + x_1.snd < lenZ shp) = true →
 inI64 ((5 : Int) * x.snd.snd.snd)) ∧
 (decide ((5 : Int) * x.snd.snd.snd + x_1.snd < lenZ shp) = true →
 inI64 ((5 : Int) * x.snd.snd.snd + x_1.snd)) ∧
 (decide ((5 : Int) * x.snd.snd.snd + x_1.snd < lenZ shp) = true →
 within ((5 : Int) * x.snd.snd.snd + x_1.snd) (lenZ shp)) ∧
 (decide ((5 : Int) * x.snd.snd.snd + x_1.snd < lenZ shp) = true →
 partV Go.Proofs.Tryd.prog (4 : Nat) (pvZ shp ((5 : Int) * x.snd.snd.snd + x_1.snd))
 (0 : Nat) =
 PV.bool
 (partV Go.Proofs.Tryd.prog (4 : Nat) (pvZ shp ((5 : Int) * x.snd.snd.snd + x_1.snd))
 (0 : Nat)).asBool) ∧
 ((bif decide ((5 : Int) * x.snd.snd.snd + x_1.snd < lenZ shp) then
 (partV Go.Proofs.Tryd.prog (4 : Nat)
 (pvZ shp ((5 : Int) * x.snd.snd.snd + x_1.snd)) (0 : Nat)).asBool
 else false) =
 true →
 ((0 : Int) ≤
 Go.IntKind.u8.wrap
 (byteZ
 (strZ
 [(ByteArray.mk #[(97 : UInt8)]).data.toList,
 (ByteArray.mk
 #[(101 : UInt8), (120 : UInt8), (97 : UInt8), (109 : UInt8), (112 : UInt8),
 (108 : UInt8), (101 : UInt8)]).data.toList,
 (ByteArray.mk #[(120 : UInt8), (45 : UInt8), (49 : UInt8)]).data.toList,
 (ByteArray.mk #[(120 : UInt8), (110 : UInt8), (45 : UInt8)]).data.toList,
 (ByteArray.mk
 #[(120 : UInt8), (110 : UInt8), (45 : UInt8), (45 : UInt8),
 (97 : UInt8)]).data.toList,
 (ByteArray.mk #[(111 : UInt8), (114 : UInt8), (103 : UInt8)]).data.toList,
 (ByteArray.mk #[(110 : UInt8), (48 : UInt8)]).data.toList,
 (ByteArray.mk #[(99 : UInt8), (45 : UInt8)]).data.toList,
 (ByteArray.mk #[(45 : UInt8)]).data.toList]
 (lowN (intZ ns x.snd.snd.snd) (9 : Int)))
 x_1.snd -
 (32 : Int)) ∧
 Go.IntKind.u8.wrap
 (byteZ
 (strZ
 [(ByteArray.mk #[(97 : UInt8)]).data.toList,
 (ByteArray.mk
 #[(101 : UInt8), (120 : UInt8), (97 : UInt8), (109 : UInt8), (112 : UInt8),
 (108 : UInt8), (101 : UInt8)]).data.toList,
 (ByteArray.mk #[(120 : UInt8), (45 : UInt8), (49 : UInt8)]).data.toList,
 (ByteArray.mk #[(120 : UInt8), (110 : UInt8), (45 : UInt8)]).data.toList,
 (ByteArray.mk
 #[(120 : UInt8), (110 : UInt8), (45 : UInt8), (45 : UInt8),
 (97 : UInt8)]).data.toList,
 (ByteArray.mk #[(111 : UInt8), (114 : UInt8), (103 : UInt8)]).data.toList,
 (ByteArray.mk #[(110 : UInt8), (48 : UInt8)]).data.toList,
 (ByteArray.mk #[(99 : UInt8), (45 : UInt8)]).data.toList,
 (ByteArray.mk #[(45 : UInt8)]).data.toList]
 (lowN (intZ ns x.snd.snd.snd) (9 : Int)))
 x_1.snd -
 (32 : Int)) ≤
 (255 : Int)) ∧
 List.length x_1.fst +
 List.length
 (hexS
 (Go.IntKind.u8.wrap
 (byteZ
 (strZ
 [(ByteArray.mk #[(97 : UInt8)]).data.toList,
 (ByteArray.mk
 #[(101 : UInt8), (120 : UInt8), (97 : UInt8), (109 : UInt8),
 (112 : UInt8), (108 : UInt8), (101 : UInt8)]).data.toList,
 (ByteArray.mk #[(120 : UInt8), (45 : UInt8), (49 : UInt8)]).data.toList,
 (ByteArray.mk #[(120 : UInt8), (110 : UInt8), (45 : UInt8)]).data.toList,
 (ByteArray.mk
 #[(120 : UInt8), (110 : UInt8), (45 : UInt8), (45 : UInt8),
 (97 : UInt8)]).data.toList,
 (ByteArray.mk #[(111 : UInt8), (114 : UInt8), (103 : UInt8)]).data.toList,
 (ByteArray.mk #[(110 : UInt8), (48 : UInt8)]).data.toList,
 (ByteArray.mk #[(99 : UInt8), (45 : UInt8)]).data.toList,
 (ByteArray.mk #[(45 : UInt8)]).data.toList]
 (lowN (intZ ns x.snd.snd.snd) (9 : Int)))
 x_1.snd -
 (32 : Int)))) ≤
 Go.Vc.maxLen ∧
 inI64 (x_1.snd + (1 : Int)) ∧
 VS.mk []
 [(nat_lit 0, PV.row nl (BRow.ints Go.IntKind.i64 ns) (0 : Nat)),
 (nat_lit 1, PV.vec nl2 (1 : Nat) shp (0 : Nat)), (nat_lit 2, PV.bool g),
 (nat_lit 6, PV.bool false),
 (nat_lit 7,
 PV.row false
 (BRow.strs
 [(ByteArray.mk #[(97 : UInt8)]).data.toList,
 (ByteArray.mk
 #[(101 : UInt8), (120 : UInt8), (97 : UInt8), (109 : UInt8),
 (112 : UInt8), (108 : UInt8), (101 : UInt8)]).data.toList,
 (ByteArray.mk #[(120 : UInt8), (45 : UInt8), (49 : UInt8)]).data.toList,
 (ByteArray.mk #[(120 : UInt8), (110 : UInt8), (45 : UInt8)]).data.toList,
 (ByteArray.mk
 #[(120 : UInt8), (110 : UInt8), (45 : UInt8), (45 : UInt8),
 (97 : UInt8)]).data.toList,
 (ByteArray.mk #[(111 : UInt8), (114 : UInt8), (103 : UInt8)]).data.toList,
 (ByteArray.mk #[(110 : UInt8), (48 : UInt8)]).data.toList,
 (ByteArray.mk #[(99 : UInt8), (45 : UInt8)]).data.toList,
 (ByteArray.mk #[(45 : UInt8)]).data.toList])
 (0 : Nat)),
 ((8 : Nat),
 PV.str
 (x_1.fst ++
 hexS
 (Go.IntKind.u8.wrap
 (byteZ
 (strZ
 [(ByteArray.mk #[(97 : UInt8)]).data.toList,
 (ByteArray.mk
 #[(101 : UInt8), (120 : UInt8), (97 : UInt8), (109 : UInt8),
 (112 : UInt8), (108 : UInt8), (101 : UInt8)]).data.toList,
 (ByteArray.mk
 #[(120 : UInt8), (45 : UInt8), (49 : UInt8)]).data.toList,
 (ByteArray.mk
 #[(120 : UInt8), (110 : UInt8), (45 : UInt8)]).data.toList,
 (ByteArray.mk
 #[(120 : UInt8), (110 : UInt8), (45 : UInt8), (45 : UInt8),
 (97 : UInt8)]).data.toList,
 (ByteArray.mk
 #[(111 : UInt8), (114 : UInt8), (103 : UInt8)]).data.toList,
 (ByteArray.mk #[(110 : UInt8), (48 : UInt8)]).data.toList,
 (ByteArray.mk #[(99 : UInt8), (45 : UInt8)]).data.toList,
 (ByteArray.mk #[(45 : UInt8)]).data.toList]
 (lowN (intZ ns x.snd.snd.snd)
 (9 : Int)))
 x_1.snd -
 (32 : Int))))),
 ((9 : Nat),
 PV.str
 (x.snd.fst ++
 strZ
 [(ByteArray.mk #[(97 : UInt8)]).data.toList,
 (ByteArray.mk
 #[(101 : UInt8), (120 : UInt8), (97 : UInt8), (109 : UInt8),
 (112 : UInt8), (108 : UInt8), (101 : UInt8)]).data.toList,
 (ByteArray.mk #[(120 : UInt8), (45 : UInt8), (49 : UInt8)]).data.toList,
 (ByteArray.mk #[(120 : UInt8), (110 : UInt8), (45 : UInt8)]).data.toList,
 (ByteArray.mk
 #[(120 : UInt8), (110 : UInt8), (45 : UInt8), (45 : UInt8),
 (97 : UInt8)]).data.toList,
 (ByteArray.mk #[(111 : UInt8), (114 : UInt8), (103 : UInt8)]).data.toList,
 (ByteArray.mk #[(110 : UInt8), (48 : UInt8)]).data.toList,
 (ByteArray.mk #[(99 : UInt8), (45 : UInt8)]).data.toList,
 (ByteArray.mk #[(45 : UInt8)]).data.toList]
 (lowN (intZ ns x.snd.snd.snd)
 (9 : Int)))),
 ((10 : Nat),
 PV.bool
 (bif x.snd.snd.fst then true
 else
 decide
 (strZ
 [(ByteArray.mk #[(97 : UInt8)]).data.toList,
 (ByteArray.mk
 #[(101 : UInt8), (120 : UInt8), (97 : UInt8), (109 : UInt8),
 (112 : UInt8), (108 : UInt8), (101 : UInt8)]).data.toList,
 (ByteArray.mk
 #[(120 : UInt8), (45 : UInt8), (49 : UInt8)]).data.toList,
 (ByteArray.mk
 #[(120 : UInt8), (110 : UInt8), (45 : UInt8)]).data.toList,
 (ByteArray.mk
 #[(120 : UInt8), (110 : UInt8), (45 : UInt8), (45 : UInt8),
 (97 : UInt8)]).data.toList,
 (ByteArray.mk
 #[(111 : UInt8), (114 : UInt8), (103 : UInt8)]).data.toList,
 (ByteArray.mk #[(110 : UInt8), (48 : UInt8)]).data.toList,
 (ByteArray.mk #[(99 : UInt8), (45 : UInt8)]).data.toList,
 (ByteArray.mk #[(45 : UInt8)]).data.toList]
 (lowN (intZ ns x.snd.snd.snd)
 (9 : Int)) =
 (ByteArray.mk
 #[(120 : UInt8), (110 : UInt8), (45 : UInt8), (45 : UInt8),
 (97 : UInt8)]).data.toList))),
 ((11 : Nat), PV.int Go.IntKind.i64 x.snd.snd.snd),
 ((12 : Nat),
 PV.str
 (strZ
 [(ByteArray.mk #[(97 : UInt8)]).data.toList,
 (ByteArray.mk
 #[(101 : UInt8), (120 : UInt8), (97 : UInt8), (109 : UInt8),
 (112 : UInt8), (108 : UInt8), (101 : UInt8)]).data.toList,
 (ByteArray.mk #[(120 : UInt8), (45 : UInt8), (49 : UInt8)]).data.toList,
 (ByteArray.mk #[(120 : UInt8), (110 : UInt8), (45 : UInt8)]).data.toList,
 (ByteArray.mk
 #[(120 : UInt8), (110 : UInt8), (45 : UInt8), (45 : UInt8),
 (97 : UInt8)]).data.toList,
 (ByteArray.mk #[(111 : UInt8), (114 : UInt8), (103 : UInt8)]).data.toList,
 (ByteArray.mk #[(110 : UInt8), (48 : UInt8)]).data.toList,
 (ByteArray.mk #[(99 : UInt8), (45 : UInt8)]).data.toList,
 (ByteArray.mk #[(45 : UInt8)]).data.toList]
 (lowN (intZ ns x.snd.snd.snd)
 (9 : Int)))),
 ((13 : Nat), PV.int Go.IntKind.i64 (x_1.snd + (1 : Int))),
 ((14 : Nat), PV.undef), (nat_lit 15, PV.undef),
 (nat_lit 16, PV.undef),
 (nat_lit 24,
 PV.bool
 (bif decide (Int.ofNat ns.length < (1 : Int)) then true
 else decide ((6 : Int) < Int.ofNat ns.length))),
 ((30 : Nat), PV.bool (decide (x.snd.snd.snd < Int.ofNat ns.length))),
 ((47 : Nat), PV.bool (decide ((0 : Int) < x.snd.snd.snd))),
 ((58 : Nat), PV.undef), ((72 : Nat), PV.undef),
 ((90 : Nat), PV.undef), (nat_lit 105, PV.undef)]
 [] =
 VS.mk []
 [(nat_lit 0, PV.row nl (BRow.ints Go.IntKind.i64 ns) (0 : Nat)),
 (nat_lit 1, PV.vec nl2 (1 : Nat) shp (0 : Nat)), (nat_lit 2, PV.bool g),
 (nat_lit 6, PV.bool false),
 (nat_lit 7,
 PV.row false
 (BRow.strs
 [(ByteArray.mk #[(97 : UInt8)]).data.toList,
 (ByteArray.mk
 #[(101 : UInt8), (120 : UInt8), (97 : UInt8), (109 : UInt8),
 (112 : UInt8), (108 : UInt8), (101 : UInt8)]).data.toList,
 (ByteArray.mk #[(120 : UInt8), (45 : UInt8), (49 : UInt8)]).data.toList,
 (ByteArray.mk #[(120 : UInt8), (110 : UInt8), (45 : UInt8)]).data.toList,
 (ByteArray.mk
 #[(120 : UInt8), (110 : UInt8), (45 : UInt8), (45 : UInt8),
 (97 : UInt8)]).data.toList,
 (ByteArray.mk #[(111 : UInt8), (114 : UInt8), (103 : UInt8)]).data.toList,
 (ByteArray.mk #[(110 : UInt8), (48 : UInt8)]).data.toList,
 (ByteArray.mk #[(99 : UInt8), (45 : UInt8)]).data.toList,
 (ByteArray.mk #[(45 : UInt8)]).data.toList])
 (0 : Nat)),
 ((8 : Nat),
 PV.str
 (x_1.fst ++
 hexS
 (Go.IntKind.u8.wrap
 (byteZ
 (strZ
 [(ByteArray.mk #[(97 : UInt8)]).data.toList,
 (ByteArray.mk
 #[(101 : UInt8), (120 : UInt8), (97 : UInt8), (109 : UInt8),
 (112 : UInt8), (108 : UInt8), (101 : UInt8)]).data.toList,
 (ByteArray.mk
 #[(120 : UInt8), (45 : UInt8), (49 : UInt8)]).data.toList,
 (ByteArray.mk
 #[(120 : UInt8), (110 : UInt8), (45 : UInt8)]).data.toList,
 (ByteArray.mk
 #[(120 : UInt8), (110 : UInt8), (45 : UInt8), (45 : UInt8),
 (97 : UInt8)]).data.toList,
 (ByteArray.mk
 #[(111 : UInt8), (114 : UInt8), (103 : UInt8)]).data.toList,
 (ByteArray.mk #[(110 : UInt8), (48 : UInt8)]).data.toList,
 (ByteArray.mk #[(99 : UInt8), (45 : UInt8)]).data.toList,
 (ByteArray.mk #[(45 : UInt8)]).data.toList]
 (lowN (intZ ns x.snd.snd.snd)
 (9 : Int)))
 x_1.snd -
 (32 : Int))))),
 ((9 : Nat),
 PV.str
 (x.snd.fst ++
 strZ
 [(ByteArray.mk #[(97 : UInt8)]).data.toList,
 (ByteArray.mk
 #[(101 : UInt8), (120 : UInt8), (97 : UInt8), (109 : UInt8),
 (112 : UInt8), (108 : UInt8), (101 : UInt8)]).data.toList,
 (ByteArray.mk #[(120 : UInt8), (45 : UInt8), (49 : UInt8)]).data.toList,
 (ByteArray.mk #[(120 : UInt8), (110 : UInt8), (45 : UInt8)]).data.toList,
 (ByteArray.mk
 #[(120 : UInt8), (110 : UInt8), (45 : UInt8), (45 : UInt8),
 (97 : UInt8)]).data.toList,
 (ByteArray.mk #[(111 : UInt8), (114 : UInt8), (103 : UInt8)]).data.toList,
 (ByteArray.mk #[(110 : UInt8), (48 : UInt8)]).data.toList,
 (ByteArray.mk #[(99 : UInt8), (45 : UInt8)]).data.toList,
 (ByteArray.mk #[(45 : UInt8)]).data.toList]
 (lowN (intZ ns x.snd.snd.snd)
 (9 : Int)))),
 ((10 : Nat),
 PV.bool
 (bif x.snd.snd.fst then true
 else
 decide
 (strZ
 [(ByteArray.mk #[(97 : UInt8)]).data.toList,
 (ByteArray.mk
 #[(101 : UInt8), (120 : UInt8), (97 : UInt8), (109 : UInt8),
 (112 : UInt8), (108 : UInt8), (101 : UInt8)]).data.toList,
 (ByteArray.mk
 #[(120 : UInt8), (45 : UInt8), (49 : UInt8)]).data.toList,
 (ByteArray.mk
 #[(120 : UInt8), (110 : UInt8), (45 : UInt8)]).data.toList,
 (ByteArray.mk
 #[(120 : UInt8), (110 : UInt8), (45 : UInt8), (45 : UInt8),
 (97 : UInt8)]).data.toList,
 (ByteArray.mk
 #[(111 : UInt8), (114 : UInt8), (103 : UInt8)]).data.toList,
 (ByteArray.mk #[(110 : UInt8), (48 : UInt8)]).data.toList,
 (ByteArray.mk #[(99 : UInt8), (45 : UInt8)]).data.toList,
 (ByteArray.mk #[(45 : UInt8)]).data.toList]
 (lowN (intZ ns x.snd.snd.snd)
 (9 : Int)) =
 (ByteArray.mk
 #[(120 : UInt8), (110 : UInt8), (45 : UInt8), (45 : UInt8),
 (97 : UInt8)]).data.toList))),
 ((11 : Nat), PV.int Go.IntKind.i64 x.snd.snd.snd),
 ((12 : Nat),
 PV.str
 (strZ
 [(ByteArray.mk #[(97 : UInt8)]).data.toList,
 (ByteArray.mk
 #[(101 : UInt8), (120 : UInt8), (97 : UInt8), (109 : UInt8),
 (112 : UInt8), (108 : UInt8), (101 : UInt8)]).data.toList,
 (ByteArray.mk #[(120 : UInt8), (45 : UInt8), (49 : UInt8)]).data.toList,
 (ByteArray.mk #[(120 : UInt8), (110 : UInt8), (45 : UInt8)]).data.toList,
 (ByteArray.mk
 #[(120 : UInt8), (110 : UInt8), (45 : UInt8), (45 : UInt8),
 (97 : UInt8)]).data.toList,
 (ByteArray.mk #[(111 : UInt8), (114 : UInt8), (103 : UInt8)]).data.toList,
 (ByteArray.mk #[(110 : UInt8), (48 : UInt8)]).data.toList,
 (ByteArray.mk #[(99 : UInt8), (45 : UInt8)]).data.toList,
 (ByteArray.mk #[(45 : UInt8)]).data.toList]
 (lowN (intZ ns x.snd.snd.snd)
 (9 : Int)))),
 ((13 : Nat), PV.int Go.IntKind.i64 (x_1.snd + (1 : Int))),
 ((14 : Nat), PV.undef), (nat_lit 15, PV.undef),
 (nat_lit 16, PV.undef),
 (nat_lit 24,
 PV.bool
 (bif decide (Int.ofNat ns.length < (1 : Int)) then true
 else decide ((6 : Int) < Int.ofNat ns.length))),
 ((30 : Nat), PV.bool (decide (x.snd.snd.snd < Int.ofNat ns.length))),
 ((47 : Nat), PV.bool (decide ((0 : Int) < x.snd.snd.snd))),
 ((58 : Nat), PV.undef), ((72 : Nat), PV.undef),
 ((90 : Nat), PV.undef), (nat_lit 105, PV.undef)]
 [] ∧
 NamI x.fst
 (strZ
 [(ByteArray.mk #[(97 : UInt8)]).data.toList,
 (ByteArray.mk
 #[(101 : UInt8), (120 : UInt8), (97 : UInt8), (109 : UInt8), (112 : UInt8),
 (108 : UInt8), (101 : UInt8)]).data.toList,
 (ByteArray.mk #[(120 : UInt8), (45 : UInt8), (49 : UInt8)]).data.toList,
 (ByteArray.mk #[(120 : UInt8), (110 : UInt8), (45 : UInt8)]).data.toList,
 (ByteArray.mk
 #[(120 : UInt8), (110 : UInt8), (45 : UInt8), (45 : UInt8),
 (97 : UInt8)]).data.toList,
 (ByteArray.mk #[(111 : UInt8), (114 : UInt8), (103 : UInt8)]).data.toList,
 (ByteArray.mk #[(110 : UInt8), (48 : UInt8)]).data.toList,
 (ByteArray.mk #[(99 : UInt8), (45 : UInt8)]).data.toList,
 (ByteArray.mk #[(45 : UInt8)]).data.toList]
 (lowN (intZ ns x.snd.snd.snd) (9 : Int)))
 (x_1.fst ++
 hexS
 (Go.IntKind.u8.wrap
 (byteZ
 (strZ
 [(ByteArray.mk #[(97 : UInt8)]).data.toList,
 (ByteArray.mk
 #[(101 : UInt8), (120 : UInt8), (97 : UInt8), (109 : UInt8),
 (112 : UInt8), (108 : UInt8), (101 : UInt8)]).data.toList,
 (ByteArray.mk #[(120 : UInt8), (45 : UInt8), (49 : UInt8)]).data.toList,
 (ByteArray.mk
 #[(120 : UInt8), (110 : UInt8), (45 : UInt8)]).data.toList,
 (ByteArray.mk
 #[(120 : UInt8), (110 : UInt8), (45 : UInt8), (45 : UInt8),
 (97 : UInt8)]).data.toList,
 (ByteArray.mk
 #[(111 : UInt8), (114 : UInt8), (103 : UInt8)]).data.toList,
 (ByteArray.mk #[(110 : UInt8), (48 : UInt8)]).data.toList,
 (ByteArray.mk #[(99 : UInt8), (45 : UInt8)]).data.toList,
 (ByteArray.mk #[(45 : UInt8)]).data.toList]
 (lowN (intZ ns x.snd.snd.snd)
 (9 : Int)))
 x_1.snd -
 (32 : Int))))
 (x_1.snd + (1 : Int)) ∧
 (↑(List.length
 (strZ
 [(ByteArray.mk #[(97 : UInt8)]).data.toList,
 (ByteArray.mk
 #[(101 : UInt8), (120 : UInt8), (97 : UInt8), (109 : UInt8),
 (112 : UInt8), (108 : UInt8), (101 : UInt8)]).data.toList,
 (ByteArray.mk #[(120 : UInt8), (45 : UInt8), (49 : UInt8)]).data.toList,
 (ByteArray.mk #[(120 : UInt8), (110 : UInt8), (45 : UInt8)]).data.toList,
 (ByteArray.mk
 #[(120 : UInt8), (110 : UInt8), (45 : UInt8), (45 : UInt8),
 (97 : UInt8)]).data.toList,
 (ByteArray.mk #[(111 : UInt8), (114 : UInt8), (103 : UInt8)]).data.toList,
 (ByteArray.mk #[(110 : UInt8), (48 : UInt8)]).data.toList,
 (ByteArray.mk #[(99 : UInt8), (45 : UInt8)]).data.toList,
 (ByteArray.mk #[(45 : UInt8)]).data.toList]
 (lowN (intZ ns x.snd.snd.snd)
 (9 : Int)))) -
 (x_1.snd + (1 : Int))).toNat <
 (↑(List.length
 (strZ
 [(ByteArray.mk #[(97 : UInt8)]).data.toList,
 (ByteArray.mk
 #[(101 : UInt8), (120 : UInt8), (97 : UInt8), (109 : UInt8),
 (112 : UInt8), (108 : UInt8), (101 : UInt8)]).data.toList,
 (ByteArray.mk #[(120 : UInt8), (45 : UInt8), (49 : UInt8)]).data.toList,
 (ByteArray.mk #[(120 : UInt8), (110 : UInt8), (45 : UInt8)]).data.toList,
 (ByteArray.mk
 #[(120 : UInt8), (110 : UInt8), (45 : UInt8), (45 : UInt8),
 (97 : UInt8)]).data.toList,
 (ByteArray.mk #[(111 : UInt8), (114 : UInt8), (103 : UInt8)]).data.toList,
 (ByteArray.mk #[(110 : UInt8), (48 : UInt8)]).data.toList,
 (ByteArray.mk #[(99 : UInt8), (45 : UInt8)]).data.toList,
 (ByteArray.mk #[(45 : UInt8)]).data.toList]
 (lowN (intZ ns x.snd.snd.snd)
 (9 : Int)))) -
 x_1.snd).toNat) ∧
 ((bif decide ((5 : Int) * x.snd.snd.snd + x_1.snd < lenZ shp) then
 (partV Go.Proofs.Tryd.prog (4 : Nat)
 (pvZ shp ((5 : Int) * x.snd.snd.snd + x_1.snd)) (0 : Nat)).asBool
 else false) =
 false →
 allU8
 [PV.int Go.IntKind.u8
 (Go.IntKind.u8.wrap
 (byteZ
 (strZ
 [(ByteArray.mk #[(97 : UInt8)]).data.toList,
 (ByteArray.mk
 #[(101 : UInt8), (120 : UInt8), (97 : UInt8), (109 : UInt8),
 (112 : UInt8), (108 : UInt8), (101 : UInt8)]).data.toList,
 (ByteArray.mk #[(120 : UInt8), (45 : UInt8), (49 : UInt8)]).data.toList,
 (ByteArray.mk #[(120 : UInt8), (110 : UInt8), (45 : UInt8)]).data.toList,
 (ByteArray.mk
 #[(120 : UInt8), (110 : UInt8), (45 : UInt8), (45 : UInt8),
 (97 : UInt8)]).data.toList,
 (ByteArray.mk #[(111 : UInt8), (114 : UInt8), (103 : UInt8)]).data.toList,
 (ByteArray.mk #[(110 : UInt8), (48 : UInt8)]).data.toList,
 (ByteArray.mk #[(99 : UInt8), (45 : UInt8)]).data.toList,
 (ByteArray.mk #[(45 : UInt8)]).data.toList]
 (lowN (intZ ns x.snd.snd.snd) (9 : Int)))
 x_1.snd -
 (32 : Int)))] ∧
 List.length x_1.fst +
 [zByte
 (Go.IntKind.u8.wrap
 (byteZ
 (strZ
 [(ByteArray.mk #[(97 : UInt8)]).data.toList,
 (ByteArray.mk
 #[(101 : UInt8), (120 : UInt8), (97 : UInt8), (109 : UInt8),
 (112 : UInt8), (108 : UInt8), (101 : UInt8)]).data.toList,
 (ByteArray.mk #[(120 : UInt8), (45 : UInt8), (49 : UInt8)]).data.toList,
 (ByteArray.mk #[(120 : UInt8), (110 : UInt8), (45 : UInt8)]).data.toList,
 (ByteArray.mk
 #[(120 : UInt8), (110 : UInt8), (45 : UInt8), (45 : UInt8),
 (97 : UInt8)]).data.toList,
 (ByteArray.mk #[(111 : UInt8), (114 : UInt8), (103 : UInt8)]).data.toList,
 (ByteArray.mk #[(110 : UInt8), (48 : UInt8)]).data.toList,
 (ByteArray.mk #[(99 : UInt8), (45 : UInt8)]).data.toList,
 (ByteArray.mk #[(45 : UInt8)]).data.toList]
 (lowN (intZ ns x.snd.snd.snd)
 (9 : Int)))
 x_1.snd -
 (32 : Int)))].length ≤
 Go.Vc.maxLen ∧
 inI64 (x_1.snd + (1 : Int)) ∧
 VS.mk []
 [(nat_lit 0, PV.row nl (BRow.ints Go.IntKind.i64 ns) (0 : Nat)),
 (nat_lit 1, PV.vec nl2 (1 : Nat) shp (0 : Nat)), (nat_lit 2, PV.bool g),
 (nat_lit 6, PV.bool false),
 (nat_lit 7,
 PV.row false
 (BRow.strs
 [(ByteArray.mk #[(97 : UInt8)]).data.toList,
 (ByteArray.mk
 #[(101 : UInt8), (120 : UInt8), (97 : UInt8), (109 : UInt8),
 (112 : UInt8), (108 : UInt8), (101 : UInt8)]).data.toList,
 (ByteArray.mk #[(120 : UInt8), (45 : UInt8), (49 : UInt8)]).data.toList,
 (ByteArray.mk #[(120 : UInt8), (110 : UInt8), (45 : UInt8)]).data.toList,
 (ByteArray.mk
 #[(120 : UInt8), (110 : UInt8), (45 : UInt8), (45 : UInt8),
 (97 : UInt8)]).data.toList,
 (ByteArray.mk #[(111 : UInt8), (114 : UInt8), (103 : UInt8)]).data.toList,
 (ByteArray.mk #[(110 : UInt8), (48 : UInt8)]).data.toList,
 (ByteArray.mk #[(99 : UInt8), (45 : UInt8)]).data.toList,
 (ByteArray.mk #[(45 : UInt8)]).data.toList])
 (0 : Nat)),
 ((8 : Nat),
 PV.str
 (x_1.fst ++
 [zByte
 (Go.IntKind.u8.wrap
 (byteZ
 (strZ
 [(ByteArray.mk #[(97 : UInt8)]).data.toList,
 (ByteArray.mk
 #[(101 : UInt8), (120 : UInt8), (97 : UInt8),
 (109 : UInt8), (112 : UInt8), (108 : UInt8),
 (101 : UInt8)]).data.toList,
 (ByteArray.mk
 #[(120 : UInt8), (45 : UInt8), (49 : UInt8)]).data.toList,
 (ByteArray.mk
 #[(120 : UInt8), (110 : UInt8),
 (45 : UInt8)]).data.toList,
 (ByteArray.mk
 #[(120 : UInt8), (110 : UInt8), (45 : UInt8),
 (45 : UInt8), (97 : UInt8)]).data.toList,
 (ByteArray.mk
 #[(111 : UInt8), (114 : UInt8),
 (103 : UInt8)]).data.toList,
 (ByteArray.mk #[(110 : UInt8), (48 : UInt8)]).data.toList,
 (ByteArray.mk #[(99 : UInt8), (45 : UInt8)]).data.toList,
 (ByteArray.mk #[(45 : UInt8)]).data.toList]
 (lowN (intZ ns x.snd.snd.snd)
 (9 : Int)))
 x_1.snd -
 (32 : Int)))])),
 ((9 : Nat),
 PV.str
 (x.snd.fst ++
 strZ
 [(ByteArray.mk #[(97 : UInt8)]).data.toList,
 (ByteArray.mk
 #[(101 : UInt8), (120 : UInt8), (97 : UInt8), (109 : UInt8),
 (112 : UInt8), (108 : UInt8), (101 : UInt8)]).data.toList,
 (ByteArray.mk #[(120 : UInt8), (45 : UInt8), (49 : UInt8)]).data.toList,
 (ByteArray.mk #[(120 : UInt8), (110 : UInt8), (45 : UInt8)]).data.toList,
 (ByteArray.mk
 #[(120 : UInt8), (110 : UInt8), (45 : UInt8), (45 : UInt8),
 (97 : UInt8)]).data.toList,
 (ByteArray.mk #[(111 : UInt8), (114 : UInt8), (103 : UInt8)]).data.toList,
 (ByteArray.mk #[(110 : UInt8), (48 : UInt8)]).data.toList,
 (ByteArray.mk #[(99 : UInt8), (45 : UInt8)]).data.toList,
 (ByteArray.mk #[(45 : UInt8)]).data.toList]
 (lowN (intZ ns x.snd.snd.snd)
 (9 : Int)))),
 ((10 : Nat),
 PV.bool
 (bif x.snd.snd.fst then true
 else
 decide
 (strZ
 [(ByteArray.mk #[(97 : UInt8)]).data.toList,
 (ByteArray.mk
 #[(101 : UInt8), (120 : UInt8), (97 : UInt8), (109 : UInt8),
 (112 : UInt8), (108 : UInt8), (101 : UInt8)]).data.toList,
 (ByteArray.mk
 #[(120 : UInt8), (45 : UInt8), (49 : UInt8)]).data.toList,
 (ByteArray.mk
 #[(120 : UInt8), (110 : UInt8), (45 : UInt8)]).data.toList,
 (ByteArray.mk
 #[(120 : UInt8), (110 : UInt8), (45 : UInt8), (45 : UInt8),
 (97 : UInt8)]).data.toList,
 (ByteArray.mk
 #[(111 : UInt8), (114 : UInt8), (103 : UInt8)]).data.toList,
 (ByteArray.mk #[(110 : UInt8), (48 : UInt8)]).data.toList,
 (ByteArray.mk #[(99 : UInt8), (45 : UInt8)]).data.toList,
 (ByteArray.mk #[(45 : UInt8)]).data.toList]
 (lowN (intZ ns x.snd.snd.snd)
 (9 : Int)) =
 (ByteArray.mk
 #[(120 : UInt8), (110 : UInt8), (45 : UInt8), (45 : UInt8),
 (97 : UInt8)]).data.toList))),
 ((11 : Nat), PV.int Go.IntKind.i64 x.snd.snd.snd),
 ((12 : Nat),
 PV.str
 (strZ
 [(ByteArray.mk #[(97 : UInt8)]).data.toList,
 (ByteArray.mk
 #[(101 : UInt8), (120 : UInt8), (97 : UInt8), (109 : UInt8),
 (112 : UInt8), (108 : UInt8), (101 : UInt8)]).data.toList,
 (ByteArray.mk #[(120 : UInt8), (45 : UInt8), (49 : UInt8)]).data.toList,
 (ByteArray.mk #[(120 : UInt8), (110 : UInt8), (45 : UInt8)]).data.toList,
 (ByteArray.mk
 #[(120 : UInt8), (110 : UInt8), (45 : UInt8), (45 : UInt8),
 (97 : UInt8)]).data.toList,
 (ByteArray.mk #[(111 : UInt8), (114 : UInt8), (103 : UInt8)]).data.toList,
 (ByteArray.mk #[(110 : UInt8), (48 : UInt8)]).data.toList,
 (ByteArray.mk #[(99 : UInt8), (45 : UInt8)]).data.toList,
 (ByteArray.mk #[(45 : UInt8)]).data.toList]
 (lowN (intZ ns x.snd.snd.snd)
 (9 : Int)))),
 ((13 : Nat), PV.int Go.IntKind.i64 (x_1.snd + (1 : Int))),
 ((14 : Nat), PV.undef), (nat_lit 15, PV.undef),
 (nat_lit 16, PV.undef),
 (nat_lit 24,
 PV.bool
 (bif decide (Int.ofNat ns.length < (1 : Int)) then true
 else decide ((6 : Int) < Int.ofNat ns.length))),
 ((30 : Nat), PV.bool (decide (x.snd.snd.snd < Int.ofNat ns.length))),
 ((47 : Nat), PV.bool (decide ((0 : Int) < x.snd.snd.snd))),
 ((58 : Nat), PV.undef), ((72 : Nat), PV.undef),
 ((90 : Nat), PV.undef), (nat_lit 105, PV.undef)]
 [] =
 VS.mk []
 [(nat_lit 0, PV.row nl (BRow.ints Go.IntKind.i64 ns) (0 : Nat)),
 (nat_lit 1, PV.vec nl2 (1 : Nat) shp (0 : Nat)), (nat_lit 2, PV.bool g),
 (nat_lit 6, PV.bool false),
 (nat_lit 7,
 PV.row false
 (BRow.strs
 [(ByteArray.mk #[(97 : UInt8)]).data.toList,
 (ByteArray.mk
 #[(101 : UInt8), (120 : UInt8), (97 : UInt8), (109 : UInt8),
 (112 : UInt8), (108 : UInt8), (101 : UInt8)]).data.toList,
 (ByteArray.mk #[(120 : UInt8), (45 : UInt8), (49 : UInt8)]).data.toList,
 (ByteArray.mk #[(120 : UInt8), (110 : UInt8), (45 : UInt8)]).data.toList,
 (ByteArray.mk
 #[(120 : UInt8), (110 : UInt8), (45 : UInt8), (45 : UInt8),
 (97 : UInt8)]).data.toList,
 (ByteArray.mk #[(111 : UInt8), (114 : UInt8), (103 : UInt8)]).data.toList,
 (ByteArray.mk #[(110 : UInt8), (48 : UInt8)]).data.toList,
 (ByteArray.mk #[(99 : UInt8), (45 : UInt8)]).data.toList,
 (ByteArray.mk #[(45 : UInt8)]).data.toList])
 (0 : Nat)),
 ((8 : Nat),
 PV.str
 (x_1.fst ++
 [zByte
 (Go.IntKind.u8.wrap
 (byteZ
 (strZ
 [(ByteArray.mk #[(97 : UInt8)]).data.toList,
 (ByteArray.mk
 #[(101 : UInt8), (120 : UInt8), (97 : UInt8),
 (109 : UInt8), (112 : UInt8), (108 : UInt8),
 (101 : UInt8)]).data.toList,
 (ByteArray.mk
 #[(120 : UInt8), (45 : UInt8), (49 : UInt8)]).data.toList,
 (ByteArray.mk
 #[(120 : UInt8), (110 : UInt8),
 (45 : UInt8)]).data.toList,
 (ByteArray.mk
 #[(120 : UInt8), (110 : UInt8), (45 : UInt8),
 (45 : UInt8), (97 : UInt8)]).data.toList,
 (ByteArray.mk
 #[(111 : UInt8), (114 : UInt8),
 (103 : UInt8)]).data.toList,
 (ByteArray.mk #[(110 : UInt8), (48 : UInt8)]).data.toList,
 (ByteArray.mk #[(99 : UInt8), (45 : UInt8)]).data.toList,
 (ByteArray.mk #[(45 : UInt8)]).data.toList]
 (lowN (intZ ns x.snd.snd.snd)
 (9 : Int)))
 x_1.snd -
 (32 : Int)))])),
 ((9 : Nat),
 PV.str
 (x.snd.fst ++
 strZ
 [(ByteArray.mk #[(97 : UInt8)]).data.toList,
 (ByteArray.mk
 #[(101 : UInt8), (120 : UInt8), (97 : UInt8), (109 : UInt8),
 (112 : UInt8), (108 : UInt8), (101 : UInt8)]).data.toList,
 (ByteArray.mk #[(120 : UInt8), (45 : UInt8), (49 : UInt8)]).data.toList,
 (ByteArray.mk #[(120 : UInt8), (110 : UInt8), (45 : UInt8)]).data.toList,
 (ByteArray.mk
 #[(120 : UInt8), (110 : UInt8), (45 : UInt8), (45 : UInt8),
 (97 : UInt8)]).data.toList,
 (ByteArray.mk #[(111 : UInt8), (114 : UInt8), (103 : UInt8)]).data.toList,
 (ByteArray.mk #[(110 : UInt8), (48 : UInt8)]).data.toList,
 (ByteArray.mk #[(99 : UInt8), (45 : UInt8)]).data.toList,
 (ByteArray.mk #[(45 : UInt8)]).data.toList]
 (lowN (intZ ns x.snd.snd.snd)
 (9 : Int)))),
 ((10 : Nat),
 PV.bool
 (bif x.snd.snd.fst then true
 else
 decide
 (strZ
 [(ByteArray.mk #[(97 : UInt8)]).data.toList,
 (ByteArray.mk
 #[(101 : UInt8), (120 : UInt8), (97 : UInt8), (109 : UInt8),
 (112 : UInt8), (108 : UInt8), (101 : UInt8)]).data.toList,
 (ByteArray.mk
 #[(120 : UInt8), (45 : UInt8), (49 : UInt8)]).data.toList,
 (ByteArray.mk
 #[(120 : UInt8), (110 : UInt8), (45 : UInt8)]).data.toList,
 (ByteArray.mk
 #[(120 : UInt8), (110 : UInt8), (45 : UInt8), (45 : UInt8),
 (97 : UInt8)]).data.toList,
 (ByteArray.mk
 #[(111 : UInt8), (114 : UInt8), (103 : UInt8)]).data.toList,
 (ByteArray.mk #[(110 : UInt8), (48 : UInt8)]).data.toList,
 (ByteArray.mk #[(99 : UInt8), (45 : UInt8)]).data.toList,
 (ByteArray.mk #[(45 : UInt8)]).data.toList]
 (lowN (intZ ns x.snd.snd.snd)
 (9 : Int)) =
 (ByteArray.mk
 #[(120 : UInt8), (110 : UInt8), (45 : UInt8), (45 : UInt8),
 (97 : UInt8)]).data.toList))),
 ((11 : Nat), PV.int Go.IntKind.i64 x.snd.snd.snd),
 ((12 : Nat),
 PV.str
 (strZ
 [(ByteArray.mk #[(97 : UInt8)]).data.toList,
 (ByteArray.mk
 #[(101 : UInt8), (120 : UInt8), (97 : UInt8), (109 : UInt8),
 (112 : UInt8), (108 : UInt8), (101 : UInt8)]).data.toList,
 (ByteArray.mk #[(120 : UInt8), (45 : UInt8), (49 : UInt8)]).data.toList,
 (ByteArray.mk #[(120 : UInt8), (110 : UInt8), (45 : UInt8)]).data.toList,
 (ByteArray.mk
 #[(120 : UInt8), (110 : UInt8), (45 : UInt8), (45 : UInt8),
 (97 : UInt8)]).data.toList,
 (ByteArray.mk #[(111 : UInt8), (114 : UInt8), (103 : UInt8)]).data.toList,
 (ByteArray.mk #[(110 : UInt8), (48 : UInt8)]).data.toList,
 (ByteArray.mk #[(99 : UInt8), (45 : UInt8)]).data.toList,
 (ByteArray.mk #[(45 : UInt8)]).data.toList]
 (lowN (intZ ns x.snd.snd.snd)
 (9 : Int)))),
 ((13 : Nat), PV.int Go.IntKind.i64 (x_1.snd + (1 : Int))),
 ((14 : Nat), PV.undef), (nat_lit 15, PV.undef),
 (nat_lit 16, PV.undef),
 (nat_lit 24,
 PV.bool
 (bif decide (Int.ofNat ns.length < (1 : Int)) then true
 else decide ((6 : Int) < Int.ofNat ns.length))),
 ((30 : Nat), PV.bool (decide (x.snd.snd.snd < Int.ofNat ns.length))),
 ((47 : Nat), PV.bool (decide ((0 : Int) < x.snd.snd.snd))),
 ((58 : Nat), PV.undef), ((72 : Nat), PV.undef),
 ((90 : Nat), PV.undef), (nat_lit 105, PV.undef)]
 [] ∧
 NamI x.fst
 (strZ
 [(ByteArray.mk #[(97 : UInt8)]).data.toList,
 (ByteArray.mk
 #[(101 : UInt8), (120 : UInt8), (97 : UInt8), (109 : UInt8), (112 : UInt8),
 (108 : UInt8), (101 : UInt8)]).data.toList,
 (ByteArray.mk #[(120 : UInt8), (45 : UInt8), (49 : UInt8)]).data.toList,
 (ByteArray.mk #[(120 : UInt8), (110 : UInt8), (45 : UInt8)]).data.toList,
 (ByteArray.mk
 #[(120 : UInt8), (110 : UInt8), (45 : UInt8), (45 : UInt8),
 (97 : UInt8)]).data.toList,
 (ByteArray.mk #[(111 : UInt8), (114 : UInt8), (103 : UInt8)]).data.toList,
 (ByteArray.mk #[(110 : UInt8), (48 : UInt8)]).data.toList,
 (ByteArray.mk #[(99 : UInt8), (45 : UInt8)]).data.toList,
 (ByteArray.mk #[(45 : UInt8)]).data.toList]
 (lowN (intZ ns x.snd.snd.snd) (9 : Int)))
 (x_1.fst ++
 [zByte
 (Go.IntKind.u8.wrap
 (byteZ
 (strZ
 [(ByteArray.mk #[(97 : UInt8)]).data.toList,
 (ByteArray.mk
 #[(101 : UInt8), (120 : UInt8), (97 : UInt8), (109 : UInt8),
 (112 : UInt8), (108 : UInt8), (101 : UInt8)]).data.toList,
 (ByteArray.mk
 #[(120 : UInt8), (45 : UInt8), (49 : UInt8)]).data.toList,
 (ByteArray.mk
 #[(120 : UInt8), (110 : UInt8), (45 : UInt8)]).data.toList,
 (ByteArray.mk
 #[(120 : UInt8), (110 : UInt8), (45 : UInt8), (45 : UInt8),
 (97 : UInt8)]).data.toList,
 (ByteArray.mk
 #[(111 : UInt8), (114 : UInt8), (103 : UInt8)]).data.toList,
 (ByteArray.mk #[(110 : UInt8), (48 : UInt8)]).data.toList,
 (ByteArray.mk #[(99 : UInt8), (45 : UInt8)]).data.toList,
 (ByteArray.mk #[(45 : UInt8)]).data.toList]
 (lowN (intZ ns x.snd.snd.snd)
 (9 : Int)))
 x_1.snd -
 (32 : Int)))])
 (x_1.snd + (1 : Int)) ∧
 (↑(List.length
 (strZ
 [(ByteArray.mk #[(97 : UInt8)]).data.toList,
 (ByteArray.mk
 #[(101 : UInt8), (120 : UInt8), (97 : UInt8), (109 : UInt8),
 (112 : UInt8), (108 : UInt8), (101 : UInt8)]).data.toList,
 (ByteArray.mk #[(120 : UInt8), (45 : UInt8), (49 : UInt8)]).data.toList,
 (ByteArray.mk #[(120 : UInt8), (110 : UInt8), (45 : UInt8)]).data.toList,
 (ByteArray.mk
 #[(120 : UInt8), (110 : UInt8), (45 : UInt8), (45 : UInt8),
 (97 : UInt8)]).data.toList,
 (ByteArray.mk #[(111 : UInt8), (114 : UInt8), (103 : UInt8)]).data.toList,
 (ByteArray.mk #[(110 : UInt8), (48 : UInt8)]).data.toList,
 (ByteArray.mk #[(99 : UInt8), (45 : UInt8)]).data.toList,
 (ByteArray.mk #[(45 : UInt8)]).data.toList]
 (lowN (intZ ns x.snd.snd.snd)
 (9 : Int)))) -
 (x_1.snd + (1 : Int))).toNat <
 (↑(List.length
 (strZ
 [(ByteArray.mk #[(97 : UInt8)]).data.toList,
 (ByteArray.mk
 #[(101 : UInt8), (120 : UInt8), (97 : UInt8), (109 : UInt8),
 (112 : UInt8), (108 : UInt8), (101 : UInt8)]).data.toList,
 (ByteArray.mk #[(120 : UInt8), (45 : UInt8), (49 : UInt8)]).data.toList,
 (ByteArray.mk #[(120 : UInt8), (110 : UInt8), (45 : UInt8)]).data.toList,
 (ByteArray.mk
 #[(120 : UInt8), (110 : UInt8), (45 : UInt8), (45 : UInt8),
 (97 : UInt8)]).data.toList,
 (ByteArray.mk #[(111 : UInt8), (114 : UInt8), (103 : UInt8)]).data.toList,
 (ByteArray.mk #[(110 : UInt8), (48 : UInt8)]).data.toList,
 (ByteArray.mk #[(99 : UInt8), (45 : UInt8)]).data.toList,
 (ByteArray.mk #[(45 : UInt8)]).data.toList]
 (lowN (intZ ns x.snd.snd.snd)
 (9 : Int)))) -
 x_1.snd).toNat)) ∧
 ((bif
 bif g then
 decide
 ((97 : Int) ≤
 byteZ
 (strZ
 [(ByteArray.mk #[(97 : UInt8)]).data.toList,
 (ByteArray.mk
 #[(101 : UInt8), (120 : UInt8), (97 : UInt8), (109 : UInt8), (112 : UInt8), (108 : UInt8),
 (101 : UInt8)]).data.toList,
 (ByteArray.mk #[(120 : UInt8), (45 : UInt8), (49 : UInt8)]).data.toList,
 (ByteArray.mk #[(120 : UInt8), (110 : UInt8), (45 : UInt8)]).data.toList,
 (ByteArray.mk
 #[(120 : UInt8), (110 : UInt8), (45 : UInt8), (45 : UInt8), (97 : UInt8)]).data.toList,
 (ByteArray.mk #[(111 : UInt8), (114 : UInt8), (103 : UInt8)]).data.toList,
 (ByteArray.mk #[(110 : UInt8), (48 : UInt8)]).data.toList,
 (ByteArray.mk #[(99 : UInt8), (45 : UInt8)]).data.toList,
 (ByteArray.mk #[(45 : UInt8)]).data.toList]
 (lowN (intZ ns x.snd.snd.snd) (9 : Int)))
 x_1.snd)
 else false then
 decide
 (byteZ
 (strZ
 [(ByteArray.mk #[(97 : UInt8)]).data.toList,
 (ByteArray.mk
 #[(101 : UInt8), (120 : UInt8), (97 : UInt8), (109 : UInt8), (112 : UInt8), (108 : UInt8),
 (101 : UInt8)]).data.toList,
 (ByteArray.mk #[(120 : UInt8), (45 : UInt8), (49 : UInt8)]).data.toList,
 (ByteArray.mk #[(120 : UInt8), (110 : UInt8), (45 : UInt8)]).data.toList,
 (ByteArray.mk
 #[(120 : UInt8), (110 : UInt8), (45 : UInt8), (45 : UInt8), (97 : UInt8)]).data.toList,
 (ByteArray.mk #[(111 : UInt8), (114 : UInt8), (103 : UInt8)]).data.toList,
 (ByteArray.mk #[(110 : UInt8), (48 : UInt8)]).data.toList,
 (ByteArray.mk #[(99 : UInt8), (45 : UInt8)]).data.toList,
 (ByteArray.mk #[(45 : UInt8)]).data.toList]
 (lowN (intZ ns x.snd.snd.snd) (9 : Int)))
 x_1.snd ≤
 (122 : Int))
 else false) =
 false →
 inI64 ((5 : Int) * x.snd.snd.snd) ∧
 inI64 ((5 : Int) * x.snd.snd.snd + x_1.snd) ∧
 (decide ((5 : Int) * x.snd.snd.snd + x_1.snd < lenZ shp) = true →
 inI64 ((5 : Int) * x.snd.snd.snd)) ∧
 (decide ((5 : Int) * x.snd.snd.snd + x_1.snd < lenZ shp) = true →
 inI64 ((5 : Int) * x.snd.snd.snd + x_1.snd)) ∧
 (decide ((5 : Int) * x.snd.snd.snd + x_1.snd < lenZ shp) = true →
 within ((5 : Int) * x.snd.snd.snd + x_1.snd) (lenZ shp)) ∧
 (decide ((5 : Int) * x.snd.snd.snd + x_1.snd < lenZ shp) = true →
 partV Go.Proofs.Tryd.prog (4 : Nat) (pvZ shp ((5 : Int) * x.snd.snd.snd + x_1.snd))
 (0 : Nat) =
 PV.bool
 (partV Go.Proofs.Tryd.prog (4 : Nat) (pvZ shp ((5 : Int) * x.snd.snd.snd + x_1.snd))
 (0 : Nat)).asBool) ∧
 ((bif decide ((5 : Int) * x.snd.snd.snd + x_1.snd < lenZ shp) then
 (partV Go.Proofs.Tryd.prog (4 : Nat)
 (pvZ shp ((5 : Int) * x.snd.snd.snd + x_1.snd)) (0 : Nat)).asBool
 else false) =
 true →
 ((0 : Int) ≤
 byteZ
 (strZ
 [(ByteArray.mk #[(97 : UInt8)]).data.toList,
 (ByteArray.mk
 #[(101 : UInt8), (120 : UInt8), (97 : UInt8), (109 : UInt8), (112 : UInt8),
 (108 : UInt8), (101 : UInt8)]).data.toList,
 (ByteArray.mk #[(120 : UInt8), (45 : UInt8), (49 : UInt8)]).data.toList,
 (ByteArray.mk #[(120 : UInt8), (110 : UInt8), (45 : UInt8)]).data.toList,
 (ByteArray.mk
 #[(120 : UInt8), (110 : UInt8), (45 : UInt8), (45 : UInt8),
 (97 : UInt8)]).data.toList,
 (ByteArray.mk #[(111 : UInt8), (114 : UInt8), (103 : UInt8)]).data.toList,
 (ByteArray.mk #[(110 : UInt8), (48 : UInt8)]).data.toList,
 (ByteArray.mk #[(99 : UInt8), (45 : UInt8)]).data.toList,
 (ByteArray.mk #[(45 : UInt8)]).data.toList]
 (lowN (intZ ns x.snd.snd.snd) (9 : Int)))
 x_1.snd ∧
 byteZ
 (strZ
 [(ByteArray.mk #[(97 : UInt8)]).data.toList,
 (ByteArray.mk
 #[(101 : UInt8), (120 : UInt8), (97 : UInt8), (109 : UInt8), (112 : UInt8),
 (108 : UInt8), (101 : UInt8)]).data.toList,
 (ByteArray.mk #[(120 : UInt8), (45 : UInt8), (49 : UInt8)]).data.toList,
 (ByteArray.mk #[(120 : UInt8), (110 : UInt8), (45 : UInt8)]).data.toList,
 (ByteArray.mk
 #[(120 : UInt8), (110 : UInt8), (45 : UInt8), (45 : UInt8),
 (97 : UInt8)]).data.toList,
 (ByteArray.mk #[(111 : UInt8), (114 : UInt8), (103 : UInt8)]).data.toList,
 (ByteArray.mk #[(110 : UInt8), (48 : UInt8)]).data.toList,
 (ByteArray.mk #[(99 : UInt8), (45 : UInt8)]).data.toList,
 (ByteArray.mk #[(45 : UInt8)]).data.toList]
 (lowN (intZ ns x.snd.snd.snd) (9 : Int)))
 x_1.snd ≤
 (255 : Int)) ∧
 List.length x_1.fst +
 List.length
 (hexS
 (byteZ
 (strZ
 [(ByteArray.mk #[(97 : UInt8)]).data.toList,
 (ByteArray.mk
 #[(101 : UInt8), (120 : UInt8), (97 : UInt8), (109 : UInt8),
 (112 : UInt8), (108 : UInt8), (101 : UInt8)]).data.toList,
 (ByteArray.mk #[(120 : UInt8), (45 : UInt8), (49 : UInt8)]).data.toList,
 (ByteArray.mk #[(120 : UInt8), (110 : UInt8), (45 : UInt8)]).data.toList,
 (ByteArray.mk
 #[(120 : UInt8), (110 : UInt8), (45 : UInt8), (45 : UInt8),
 (97 : UInt8)]).data.toList,
 (ByteArray.mk #[(111 : UInt8), (114 : UInt8), (103 : UInt8)]).data.toList,
 (ByteArray.mk #[(110 : UInt8), (48 : UInt8)]).data.toList,
 (ByteArray.mk #[(99 : UInt8), (45 : UInt8)]).data.toList,
 (ByteArray.mk #[(45 : UInt8)]).data.toList]
 (lowN (intZ ns x.snd.snd.snd) (9 : Int)))
 x_1.snd)) ≤
 Go.Vc.maxLen ∧
 inI64 (x_1.snd + (1 : Int)) ∧
 VS.mk []
 [(nat_lit 0, PV.row nl (BRow.ints Go.IntKind.i64 ns) (0 : Nat)),
 (nat_lit 1, PV.vec nl2 (1 : Nat) shp (0 : Nat)), (nat_lit 2, PV.bool g),
 (nat_lit 6, PV.bool false),
 (nat_lit 7,
 PV.row false
 (BRow.strs
 [(ByteArray.mk #[(97 : UInt8)]).data.toList,
 (ByteArray.mk
 #[(101 : UInt8), (120 : UInt8), (97 : UInt8), (109 : UInt8),
 (112 : UInt8), (108 : UInt8), (101 : UInt8)]).data.toList,
 (ByteArray.mk #[(120 : UInt8), (45 : UInt8), (49 : UInt8)]).data.toList,
 (ByteArray.mk #[(120 : UInt8), (110 : UInt8), (45 : UInt8)]).data.toList,
 (ByteArray.mk
 #[(120 : UInt8), (110 : UInt8), (45 : UInt8), (45 : UInt8),
 (97 : UInt8)]).data.toList,
 (ByteArray.mk #[(111 : UInt8), (114 : UInt8), (103 : UInt8)]).data.toList,
 (ByteArray.mk #[(110 : UInt8), (48 : UInt8)]).data.toList,
 (ByteArray.mk #[(99 : UInt8), (45 : UInt8)]).data.toList,
 (ByteArray.mk #[(45 : UInt8)]).data.toList])
 (0 : Nat)),
 ((8 : Nat),
 PV.str
 (x_1.fst ++
 hexS
 (byteZ
 (strZ
 [(ByteArray.mk #[(97 : UInt8)]).data.toList,
 (ByteArray.mk
 #[(101 : UInt8), (120 : UInt8), (97 : UInt8), (109 : UInt8),
 (112 : UInt8), (108 : UInt8), (101 : UInt8)]).data.toList,
 (ByteArray.mk
 #[(120 : UInt8), (45 : UInt8), (49 : UInt8)]).data.toList,
 (ByteArray.mk
 #[(120 : UInt8), (110 : UInt8), (45 : UInt8)]).data.toList,
 (ByteArray.mk
 #[(120 : UInt8), (110 : UInt8), (45 : UInt8), (45 : UInt8),
 (97 : UInt8)]).data.toList,
 (ByteArray.mk
 #[(111 : UInt8), (114 : UInt8), (103 : UInt8)]).data.toList,
 (ByteArray.mk #[(110 : UInt8), (48 : UInt8)]).data.toList,
 (ByteArray.mk #[(99 : UInt8), (45 : UInt8)]).data.toList,
 (ByteArray.mk #[(45 : UInt8)]).data.toList]
 (lowN (intZ ns x.snd.snd.snd)
 (9 : Int)))
 x_1.snd))),
 ((9 : Nat),
 PV.str
 (x.snd.fst ++
 strZ
 [(ByteArray.mk #[(97 : UInt8)]).data.toList,
 (ByteArray.mk
 #[(101 : UInt8), (120 : UInt8), (97 : UInt8), (109 : UInt8),
 (112 : UInt8), (108 : UInt8), (101 : UInt8)]).data.toList,
 (ByteArray.mk #[(120 : UInt8), (45 : UInt8), (49 : UInt8)]).data.toList,
 (ByteArray.mk #[(120 : UInt8), (110 : UInt8), (45 : UInt8)]).data.toList,
 (ByteArray.mk
 #[(120 : UInt8), (110 : UInt8), (45 : UInt8), (45 : UInt8),
 (97 : UInt8)]).data.toList,
 (ByteArray.mk #[(111 : UInt8), (114 : UInt8), (103 : UInt8)]).data.toList,
 (ByteArray.mk #[(110 : UInt8), (48 : UInt8)]).data.toList,
 (ByteArray.mk #[(99 : UInt8), (45 : UInt8)]).data.toList,
 (ByteArray.mk #[(45 : UInt8)]).data.toList]
 (lowN (intZ ns x.snd.snd.snd)
 (9 : Int)))),
 ((10 : Nat),
 PV.bool
 (bif x.snd.snd.fst then true
 else
 decide
 (strZ
 [(ByteArray.mk #[(97 : UInt8)]).data.toList,
 (ByteArray.mk
 #[(101 : UInt8), (120 : UInt8), (97 : UInt8), (109 : UInt8),
 (112 : UInt8), (108 : UInt8), (101 : UInt8)]).data.toList,
 (ByteArray.mk
 #[(120 : UInt8), (45 : UInt8), (49 : UInt8)]).data.toList,
 (ByteArray.mk
 #[(120 : UInt8), (110 : UInt8), (45 : UInt8)]).data.toList,
 (ByteArray.mk
 #[(120 : UInt8), (110 : UInt8), (45 : UInt8), (45 : UInt8),
 (97 : UInt8)]).data.toList,
 (ByteArray.mk
 #[(111 : UInt8), (114 : UInt8), (103 : UInt8)]).data.toList,
 (ByteArray.mk #[(110 : UInt8), (48 : UInt8)]).data.toList,
 (ByteArray.mk #[(99 : UInt8), (45 : UInt8)]).data.toList,
 (ByteArray.mk #[(45 : UInt8)]).data.toList]
 (lowN (intZ ns x.snd.snd.snd)
 (9 : Int)) =
 (ByteArray.mk
 #[(120 : UInt8), (110 : UInt8), (45 : UInt8), (45 : UInt8),
 (97 : UInt8)]).data.toList))),
 ((11 : Nat), PV.int Go.IntKind.i64 x.snd.snd.snd),
 ((12 : Nat),
 PV.str
 (strZ
 [(ByteArray.mk #[(97 : UInt8)]).data.toList,
 (ByteArray.mk
 #[(101 : UInt8), (120 : UInt8), (97 : UInt8), (109 : UInt8),
 (112 : UInt8), (108 : UInt8), (101 : UInt8)]).data.toList,
 (ByteArray.mk #[(120 : UInt8), (45 : UInt8), (49 : UInt8)]).data.toList,
 (ByteArray.mk #[(120 : UInt8), (110 : UInt8), (45 : UInt8)]).data.toList,
 (ByteArray.mk
 #[(120 : UInt8), (110 : UInt8), (45 : UInt8), (45 : UInt8),
 (97 : UInt8)]).data.toList,
 (ByteArray.mk #[(111 : UInt8), (114 : UInt8), (103 : UInt8)]).data.toList,
 (ByteArray.mk #[(110 : UInt8), (48 : UInt8)]).data.toList,
 (ByteArray.mk #[(99 : UInt8), (45 : UInt8)]).data.toList,
 (ByteArray.mk #[(45 : UInt8)]).data.toList]
 (lowN (intZ ns x.snd.snd.snd)
 (9 : Int)))),
 ((13 : Nat), PV.int Go.IntKind.i64 (x_1.snd + (1 : Int))),
 ((14 : Nat), PV.undef), (nat_lit 15, PV.undef),
 (nat_lit 16, PV.undef),
 (nat_lit 24,
 PV.bool
 (bif decide (Int.ofNat ns.length < (1 : Int)) then true
 else decide ((6 : Int) < Int.ofNat ns.length))),
 ((30 : Nat), PV.bool (decide (x.snd.snd.snd < Int.ofNat ns.length))),
 ((47 : Nat), PV.bool (decide ((0 : Int) < x.snd.snd.snd))),
 ((58 : Nat), PV.undef), ((72 : Nat), PV.undef),
 ((90 : Nat), PV.undef), (nat_lit 105, PV.undef)]
 [] =
 VS.mk []
 [(nat_lit 0, PV.row nl (BRow.ints Go.IntKind.i64 ns) (0 : Nat)),
 (nat_lit 1, PV.vec nl2 (1 : Nat) shp (0 : Nat)), (nat_lit 2, PV.bool g),
 (nat_lit 6, PV.bool false),
 (nat_lit 7,
 PV.row false
 (BRow.strs
 [(ByteArray.mk #[(97 : UInt8)]).data.toList,
 (ByteArray.mk
 #[(101 : UInt8), (120 : UInt8), (97 : UInt8), (109 : UInt8),
 (112 : UInt8), (108 : UInt8), (101 : UInt8)]).data.toList,
 (ByteArray.mk #[(120 : UInt8), (45 : UInt8), (49 : UInt8)]).data.toList,
 (ByteArray.mk #[(120 : UInt8), (110 : UInt8), (45 : UInt8)]).data.toList,
 (ByteArray.mk
 #[(120 : UInt8), (110 : UInt8), (45 : UInt8), (45 : UInt8),
 (97 : UInt8)]).data.toList,
 (ByteArray.mk #[(111 : UInt8), (114 : UInt8), (103 : UInt8)]).data.toList,
 (ByteArray.mk #[(110 : UInt8), (48 : UInt8)]).data.toList,
 (ByteArray.mk #[(99 : UInt8), (45 : UInt8)]).data.toList,
 (ByteArray.mk #[(45 : UInt8)]).data.toList])
 (0 : Nat)),
 ((8 : Nat),
 PV.str
 (x_1.fst ++
 hexS
 (byteZ
 (strZ
 [(ByteArray.mk #[(97 : UInt8)]).data.toList,
 (ByteArray.mk
 #[(101 : UInt8), (120 : UInt8), (97 : UInt8), (109 : UInt8),
 (112 : UInt8), (108 : UInt8), (101 : UInt8)]).data.toList,
 (ByteArray.mk
 #[(120 : UInt8), (45 : UInt8), (49 : UInt8)]).data.toList,
 (ByteArray.mk
 #[(120 : UInt8), (110 : UInt8), (45 : UInt8)]).data.toList,
 (ByteArray.mk
 #[(120 : UInt8), (110 : UInt8), (45 : UInt8), (45 : UInt8),
 (97 : UInt8)]).data.toList,
 (ByteArray.mk
 #[(111 : UInt8), (114 : UInt8), (103 : UInt8)]).data.toList,
 (ByteArray.mk #[(110 : UInt8), (48 : UInt8)]).data.toList,
 (ByteArray.mk #[(99 : UInt8), (45 : UInt8)]).data.toList,
 (ByteArray.mk #[(45 : UInt8)]).data.toList]
 (lowN (intZ ns x.snd.snd.snd)
 (9 : Int)))
 x_1.snd))),
 ((9 : Nat),
 PV.str
 (x.snd.fst ++
 strZ
 [(ByteArray.mk #[(97 : UInt8)]).data.toList,
 (ByteArray.mk
 #[(101 : UInt8), (120 : UInt8), (97 : UInt8), (109 : UInt8),
 (112 : UInt8), (108 : UInt8), (101 : UInt8)]).data.toList,
 (ByteArray.mk #[(120 : UInt8), (45 : UInt8), (49 : UInt8)]).data.toList,
 (ByteArray.mk #[(120 : UInt8), (110 : UInt8), (45 : UInt8)]).data.toList,
 (ByteArray.mk
 #[(120 : UInt8), (110 : UInt8), (45 : UInt8), (45 : UInt8),
 (97 : UInt8)]).data.toList,
 (ByteArray.mk #[(111 : UInt8), (114 : UInt8), (103 : UInt8)]).data.toList,
 (ByteArray.mk #[(110 : UInt8), (48 : UInt8)]).data.toList,
 (ByteArray.mk #[(99 : UInt8), (45 : UInt8)]).data.toList,
 (ByteArray.mk #[(45 : UInt8)]).data.toList]
 (lowN (intZ ns x.snd.snd.snd)
 (9 : Int)))),
 ((10 : Nat),
 PV.bool
 (bif x.snd.snd.fst then true
 else
 decide
 (strZ
 [(ByteArray.mk #[(97 : UInt8)]).data.toList,
 (ByteArray.mk
 #[(101 : UInt8), (120 : UInt8), (97 : UInt8), (109 : UInt8),
 (112 : UInt8), (108 : UInt8), (101 : UInt8)]).data.toList,
 (ByteArray.mk
 #[(120 : UInt8), (45 : UInt8), (49 : UInt8)]).data.toList,
 (ByteArray.mk
 #[(120 : UInt8), (110 : UInt8), (45 : UInt8)]).data.toList,
 (ByteArray.mk
 #[(120 : UInt8), (110 : UInt8), (45 : UInt8), (45 : UInt8),
 (97 : UInt8)]).data.toList,
 (ByteArray.mk
 #[(111 : UInt8), (114 : UInt8), (103 : UInt8)]).data.toList,
 (ByteArray.mk #[(110 : UInt8), (48 : UInt8)]).data.toList,
 (ByteArray.mk #[(99 : UInt8), (45 : UInt8)]).data.toList,
 (ByteArray.mk #[(45 : UInt8)]).data.toList]
 (lowN (intZ ns x.snd.snd.snd)
 (9 : Int)) =
 (ByteArray.mk
 #[(120 : UInt8), (110 : UInt8), (45 : UInt8), (45 : UInt8),
 (97 : UInt8)]).data.toList))),
 ((11 : Nat), PV.int Go.IntKind.i64 x.snd.snd.snd),
 ((12 : Nat),
 PV.str
 (strZ
 [(ByteArray.mk #[(97 : UInt8)]).data.toList,
 (ByteArray.mk
 #[(101 : UInt8), (120 : UInt8), (97 : UInt8), (109 : UInt8),
 (112 : UInt8), (108 : UInt8), (101 : UInt8)]).data.toList,
 (ByteArray.mk #[(120 : UInt8), (45 : UInt8), (49 : UInt8)]).data.toList,
 (ByteArray.mk #[(120 : UInt8), (110 : UInt8), (45 : UInt8)]).data.toList,
 (ByteArray.mk
 #[(120 : UInt8), (110 : UInt8), (45 : UInt8), (45 : UInt8),
 (97 : UInt8)]).data.toList,
 (ByteArray.mk #[(111 : UInt8), (114 : UInt8), (103 : UInt8)]).data.toList,
 (ByteArray.mk #[(110 : UInt8), (48 : UInt8)]).data.toList,
 (ByteArray.mk #[(99 : UInt8), (45 : UInt8)]).data.toList,
 (ByteArray.mk #[(45 : UInt8)]).data.toList]
 (lowN (intZ ns x.snd.snd.snd)
 (9 : Int)))),
 ((13 : Nat), PV.int Go.IntKind.i64 (x_1.snd + (1 : Int))),
 ((14 : Nat), PV.undef), (nat_lit 15, PV.undef),
 (nat_lit 16, PV.undef),
 (nat_lit 24,
 PV.bool
 (bif decide (Int.ofNat ns.length < (1 : Int)) then true
 else decide ((6 : Int) < Int.ofNat ns.length))),
 ((30 : Nat), PV.bool (decide (x.snd.snd.snd < Int.ofNat ns.length))),
 ((47 : Nat), PV.bool (decide ((0 : Int) < x.snd.snd.snd))),
 ((58 : Nat), PV.undef), ((72 : Nat), PV.undef),
 ((90 : Nat), PV.undef), (nat_lit 105, PV.undef)]
 [] ∧
 NamI x.fst
 (strZ
 [(ByteArray.mk #[(97 : UInt8)]).data.toList,
 (ByteArray.mk
 #[(101 : UInt8), (120 : UInt8), (97 : UInt8), (109 : UInt8), (112 : UInt8),
 (108 : UInt8), (101 : UInt8)]).data.toList,
 (ByteArray.mk #[(120 : UInt8), (45 : UInt8), (49 : UInt8)]).data.toList,
 (ByteArray.mk #[(120 : UInt8), (110 : UInt8), (45 : UInt8)]).data.toList,
 (ByteArray.mk
 #[(120 : UInt8), (110 : UInt8), (45 : UInt8), (45 : UInt8),
 (97 : UInt8)]).data.toList,
 (ByteArray.mk #[(111 : UInt8), (114 : UInt8), (103 : UInt8)]).data.toList,
 (ByteArray.mk #[(110 : UInt8), (48 : UInt8)]).data.toList,
 (ByteArray.mk #[(99 : UInt8), (45 : UInt8)]).data.toList,
 (ByteArray.mk #[(45 : UInt8)]).data.toList]
 (lowN (intZ ns x.snd.snd.snd) (9 : Int)))
 (x_1.fst ++
 hexS
 (byteZ
 (strZ
 [(ByteArray.mk #[(97 : UInt8)]).data.toList,
 (ByteArray.mk
 #[(101 : UInt8), (120 : UInt8), (97 : UInt8), (109 : UInt8),
 (112 : UInt8), (108 : UInt8), (101 : UInt8)]).data.toList,
 (ByteArray.mk #[(120 : UInt8), (45 : UInt8), (49 : UInt8)]).data.toList,
 (ByteArray.mk #[(120 : UInt8), (110 : UInt8), (45 : UInt8)]).data.toList,
 (ByteArray.mk
 #[(120 : UInt8), (110 : UInt8), (45 : UInt8), (45 : UInt8),
 (97 : UInt8)]).data.toList,
 (ByteArray.mk #[(111 : UInt8), (114 : UInt8), (103 : UInt8)]).data.toList,
 (ByteArray.mk #[(110 : UInt8), (48 : UInt8)]).data.toList,
 (ByteArray.mk #[(99 : UInt8), (45 : UInt8)]).data.toList,
 (ByteArray.mk #[(45 : UInt8)]).data.toList]
 (lowN (intZ ns x.snd.snd.snd) (9 : Int)))
 x_1.snd))
 (x_1.snd + (1 : Int)) ∧
 (↑(List.length
 (strZ
 [(ByteArray.mk #[(97 : UInt8)]).data.toList,
 (ByteArray.mk
 #[(101 : UInt8), (120 : UInt8), (97 : UInt8), (109 : UInt8),
 (112 : UInt8), (108 : UInt8), (101 : UInt8)]).data.toList,
 (ByteArray.mk #[(120 : UInt8), (45 : UInt8), (49 : UInt8)]).data.toList,
 (ByteArray.mk #[(120 : UInt8), (110 : UInt8), (45 : UInt8)]).data.toList,
 (ByteArray.mk
 #[(120 : UInt8), (110 : UInt8), (45 : UInt8), (45 : UInt8),
 (97 : UInt8)]).data.toList,
 (ByteArray.mk #[(111 : UInt8), (114 : UInt8), (103 : UInt8)]).data.toList,
 (ByteArray.mk #[(110 : UInt8), (48 : UInt8)]).data.toList,
 (ByteArray.mk #[(99 : UInt8), (45 : UInt8)]).data.toList,
 (ByteArray.mk #[(45 : UInt8)]).data.toList]
 (lowN (intZ ns x.snd.snd.snd)
 (9 : Int)))) -
 (x_1.snd + (1 : Int))).toNat <
 (↑(List.length
 (strZ
 [(ByteArray.mk #[(97 : UInt8)]).data.toList,
 (ByteArray.mk
 #[(101 : UInt8), (120 : UInt8), (97 : UInt8), (109 : UInt8),
 (112 : UInt8), (108 : UInt8), (101 : UInt8)]).data.toList,
 (ByteArray.mk #[(120 : UInt8), (45 : UInt8), (49 : UInt8)]).data.toList,
 (ByteArray.mk #[(120 : UInt8), (110 : UInt8), (45 : UInt8)]).data.toList,
 (ByteArray.mk
 #[(120 : UInt8), (110 : UInt8), (45 : UInt8), (45 : UInt8),
 (97 : UInt8)]).data.toList,
 (ByteArray.mk #[(111 : UInt8), (114 : UInt8), (103 : UInt8)]).data.toList,
 (ByteArray.mk #[(110 : UInt8), (48 : UInt8)]).data.toList,
 (ByteArray.mk #[(99 : UInt8), (45 : UInt8)]).data.toList,
 (ByteArray.mk #[(45 : UInt8)]).data.toList]
 (lowN (intZ ns x.snd.snd.snd)
 (9 : Int)))) -
 x_1.snd).toNat) ∧
 ((bif decide ((5 : Int) * x.snd.snd.snd + x_1.snd < lenZ shp) then
 (partV Go.Proofs.Tryd.prog (4 : Nat)
 (pvZ shp ((5 : Int) * x.snd.snd.snd + x_1.snd)) (0 : Nat)).asBool
 else false) =
 false →
 allU8
 [PV.int Go.IntKind.u8
 (byteZ
 (strZ
 [(ByteArray.mk #[(97 : UInt8)]).data.toList,
 (ByteArray.mk
 #[(101 : UInt8), (120 : UInt8), (97 : UInt8), (109 : UInt8), (112 : UInt8),
 (108 : UInt8), (101 : UInt8)]).data.toList,
 (ByteArray.mk #[(120 : UInt8), (45 : UInt8), (49 : UInt8)]).data.toList,
 (ByteArray.mk #[(120 : UInt8), (110 : UInt8), (45 : UInt8)]).data.toList,
 (ByteArray.mk
 #[(120 : UInt8), (110 : UInt8), (45 : UInt8), (45 : UInt8),
 (97 : UInt8)]).data.toList,
 (ByteArray.mk #[(111 : UInt8), (114 : UInt8), (103 : UInt8)]).data.toList,
 (ByteArray.mk #[(110 : UInt8), (48 : UInt8)]).data.toList,
 (ByteArray.mk #[(99 : UInt8), (45 : UInt8)]).data.toList,
 (ByteArray.mk #[(45 : UInt8)]).data.toList]
 (lowN (intZ ns x.snd.snd.snd) (9 : Int)))
 x_1.snd)] ∧
 List.length x_1.fst +
 [zByte
 (byteZ
 (strZ
 [(ByteArray.mk #[(97 : UInt8)]).data.toList,
 (ByteArray.mk
 #[(101 : UInt8), (120 : UInt8), (97 : UInt8), (109 : UInt8),
 (112 : UInt8), (108 : UInt8), (101 : UInt8)]).data.toList,
 (ByteArray.mk #[(120 : UInt8), (45 : UInt8), (49 : UInt8)]).data.toList,
 (ByteArray.mk #[(120 : UInt8), (110 : UInt8), (45 : UInt8)]).data.toList,
 (ByteArray.mk
 #[(120 : UInt8), (110 : UInt8), (45 : UInt8), (45 : UInt8),
 (97 : UInt8)]).data.toList,
 (ByteArray.mk #[(111 : UInt8), (114 : UInt8), (103 : UInt8)]).data.toList,
 (ByteArray.mk #[(110 : UInt8), (48 : UInt8)]).data.toList,
 (ByteArray.mk #[(99 : UInt8), (45 : UInt8)]).data.toList,
 (ByteArray.mk #[(45 : UInt8)]).data.toList]
 (lowN (intZ ns x.snd.snd.snd) (9 : Int)))
 x_1.snd)].length ≤
 Go.Vc.maxLen ∧
 inI64 (x_1.snd + (1 : Int)) ∧
 VS.mk []
 [(nat_lit 0, PV.row nl (BRow.ints Go.IntKind.i64 ns) (0 : Nat)),
 (nat_lit 1, PV.vec nl2 (1 : Nat) shp (0 : Nat)), (nat_lit 2, PV.bool g),
 (nat_lit 6, PV.bool false),
 (nat_lit 7,
 PV.row false
 (BRow.strs
 [(ByteArray.mk #[(97 : UInt8)]).data.toList,
 (ByteArray.mk
 #[(101 : UInt8), (120 : UInt8), (97 : UInt8), (109 : UInt8),
 (112 : UInt8), (108 : UInt8), (101 : UInt8)]).data.toList,
 (ByteArray.mk #[(120 : UInt8), (45 : UInt8), (49 : UInt8)]).data.toList,
 (ByteArray.mk #[(120 : UInt8), (110 : UInt8), (45 : UInt8)]).data.toList,
 (ByteArray.mk
 #[(120 : UInt8), (110 : UInt8), (45 : UInt8), (45 : UInt8),
 (97 : UInt8)]).data.toList,
 (ByteArray.mk #[(111 : UInt8), (114 : UInt8), (103 : UInt8)]).data.toList,
 (ByteArray.mk #[(110 : UInt8), (48 : UInt8)]).data.toList,
 (ByteArray.mk #[(99 : UInt8), (45 : UInt8)]).data.toList,
 (ByteArray.mk #[(45 : UInt8)]).data.toList])
 (0 : Nat)),
 ((8 : Nat),
 PV.str
 (x_1.fst ++
 [zByte
 (byteZ
 (strZ
 [(ByteArray.mk #[(97 : UInt8)]).data.toList,
 (ByteArray.mk
 #[(101 : UInt8), (120 : UInt8), (97 : UInt8), (109 : UInt8),
 (112 : UInt8), (108 : UInt8), (101 : UInt8)]).data.toList,
 (ByteArray.mk
 #[(120 : UInt8), (45 : UInt8), (49 : UInt8)]).data.toList,
 (ByteArray.mk
 #[(120 : UInt8), (110 : UInt8), (45 : UInt8)]).data.toList,
 (ByteArray.mk
 #[(120 : UInt8), (110 : UInt8), (45 : UInt8), (45 : UInt8),
 (97 : UInt8)]).data.toList,
 (ByteArray.mk
 #[(111 : UInt8), (114 : UInt8), (103 : UInt8)]).data.toList,
 (ByteArray.mk #[(110 : UInt8), (48 : UInt8)]).data.toList,
 (ByteArray.mk #[(99 : UInt8), (45 : UInt8)]).data.toList,
 (ByteArray.mk #[(45 : UInt8)]).data.toList]
 (lowN (intZ ns x.snd.snd.snd)
 (9 : Int)))
 x_1.snd)])),
 ((9 : Nat),
 PV.str
 (x.snd.fst ++
 strZ
 [(ByteArray.mk #[(97 : UInt8)]).data.toList,
 (ByteArray.mk
 #[(101 : UInt8), (120 : UInt8), (97 : UInt8), (109 : UInt8),
 (112 : UInt8), (108 : UInt8), (101 : UInt8)]).data.toList,
 (ByteArray.mk #[(120 : UInt8), (45 : UInt8), (49 : UInt8)]).data.toList,
 (ByteArray.mk #[(120 : UInt8), (110 : UInt8), (45 : UInt8)]).data.toList,
 (ByteArray.mk
 #[(120 : UInt8), (110 : UInt8), (45 : UInt8), (45 : UInt8),
 (97 : UInt8)]).data.toList,
 (ByteArray.mk #[(111 : UInt8), (114 : UInt8), (103 : UInt8)]).data.toList,
 (ByteArray.mk #[(110 : UInt8), (48 : UInt8)]).data.toList,
 (ByteArray.mk #[(99 : UInt8), (45 : UInt8)]).data.toList,
 (ByteArray.mk #[(45 : UInt8)]).data.toList]
 (lowN (intZ ns x.snd.snd.snd)
 (9 : Int)))),
 ((10 : Nat),
 PV.bool
 (bif x.snd.snd.fst then true
 else
 decide
 (strZ
 [(ByteArray.mk #[(97 : UInt8)]).data.toList,
 (ByteArray.mk
 #[(101 : UInt8), (120 : UInt8), (97 : UInt8), (109 : UInt8),
 (112 : UInt8), (108 : UInt8), (101 : UInt8)]).data.toList,
 (ByteArray.mk
 #[(120 : UInt8), (45 : UInt8), (49 : UInt8)]).data.toList,
 (ByteArray.mk
 #[(120 : UInt8), (110 : UInt8), (45 : UInt8)]).data.toList,
 (ByteArray.mk
 #[(120 : UInt8), (110 : UInt8), (45 : UInt8), (45 : UInt8),
 (97 : UInt8)]).data.toList,
 (ByteArray.mk
 #[(111 : UInt8), (114 : UInt8), (103 : UInt8)]).data.toList,
 (ByteArray.mk #[(110 : UInt8), (48 : UInt8)]).data.toList,
 (ByteArray.mk #[(99 : UInt8), (45 : UInt8)]).data.toList,
 (ByteArray.mk #[(45 : UInt8)]).data.toList]
 (lowN (intZ ns x.snd.snd.snd)
 (9 : Int)) =
 (ByteArray.mk
 #[(120 : UInt8), (110 : UInt8), (45 : UInt8), (45 : UInt8),
 (97 : UInt8)]).data.toList))),
 ((11 : Nat), PV.int Go.IntKind.i64 x.snd.snd.snd),
 ((12 : Nat),
 PV.str
 (strZ
 [(ByteArray.mk #[(97 : UInt8)]).data.toList,
 (ByteArray.mk
 #[(101 : UInt8), (120 : UInt8), (97 : UInt8), (109 : UInt8),
 (112 : UInt8), (108 : UInt8), (101 : UInt8)]).data.toList,
 (ByteArray.mk #[(120 : UInt8), (45 : UInt8), (49 : UInt8)]).data.toList,
 (ByteArray.mk #[(120 : UInt8), (110 : UInt8), (45 : UInt8)]).data.toList,
 (ByteArray.mk
 #[(120 : UInt8), (110 : UInt8), (45 : UInt8), (45 : UInt8),
 (97 : UInt8)]).data.toList,
 (ByteArray.mk #[(111 : UInt8), (114 : UInt8), (103 : UInt8)]).data.toList,
 (ByteArray.mk #[(110 : UInt8), (48 : UInt8)]).data.toList,
 (ByteArray.mk #[(99 : UInt8), (45 : UInt8)]).data.toList,
 (ByteArray.mk #[(45 : UInt8)]).data.toList]
 (lowN (intZ ns x.snd.snd.snd)
 (9 : Int)))),
 ((13 : Nat), PV.int Go.IntKind.i64 (x_1.snd + (1 : Int))),
 ((14 : Nat), PV.undef), (nat_lit 15, PV.undef),
 (nat_lit 16, PV.undef),
 (nat_lit 24,
 PV.bool
 (bif decide (Int.ofNat ns.length < (1 : Int)) then true
 else decide ((6 : Int) < Int.ofNat ns.length))),
 ((30 : Nat), PV.bool (decide (x.snd.snd.snd < Int.ofNat ns.length))),
 ((47 : Nat), PV.bool (decide ((0 : Int) < x.snd.snd.snd))),
 ((58 : Nat), PV.undef), ((72 : Nat), PV.undef),
 ((90 : Nat), PV.undef), (nat_lit 105, PV.undef)]
 [] =
 VS.mk []
 [(nat_lit 0, PV.row nl (BRow.ints Go.IntKind.i64 ns) (0 : Nat)),
 (nat_lit 1, PV.vec nl2 (1 : Nat) shp (0 : Nat)), (nat_lit 2, PV.bool g),
 (nat_lit 6, PV.bool false),
 (nat_lit 7,
 PV.row false
 (BRow.strs
 [(ByteArray.mk #[(97 : UInt8)]).data.toList,
 (ByteArray.mk
 #[(101 : UInt8), (120 : UInt8), (97 : UInt8), (109 : UInt8),
 (112 : UInt8), (108 : UInt8), (101 : UInt8)]).data.toList,
 (ByteArray.mk #[(120 : UInt8), (45 : UInt8), (49 : UInt8)]).data.toList,
 (ByteArray.mk #[(120 : UInt8), (110 : UInt8), (45 : UInt8)]).data.toList,
 (ByteArray.mk
 #[(120 : UInt8), (110 : UInt8), (45 : UInt8), (45 : UInt8),
 (97 : UInt8)]).data.toList,
 (ByteArray.mk #[(111 : UInt8), (114 : UInt8), (103 : UInt8)]).data.toList,
 (ByteArray.mk #[(110 : UInt8), (48 : UInt8)]).data.toList,
 (ByteArray.mk #[(99 : UInt8), (45 : UInt8)]).data.toList,
 (ByteArray.mk #[(45 : UInt8)]).data.toList])
 (0 : Nat)),
 ((8 : Nat),
 PV.str
 (x_1.fst ++
 [zByte
 (byteZ
 (strZ
 [(ByteArray.mk #[(97 : UInt8)]).data.toList,
 (ByteArray.mk
 #[(101 : UInt8), (120 : UInt8), (97 : UInt8), (109 : UInt8),
 (112 : UInt8), (108 : UInt8), (101 : UInt8)]).data.toList,
 (ByteArray.mk
 #[(120 : UInt8), (45 : UInt8), (49 : UInt8)]).data.toList,
 (ByteArray.mk
 #[(120 : UInt8), (110 : UInt8), (45 : UInt8)]).data.toList,
 (ByteArray.mk
 #[(120 : UInt8), (110 : UInt8), (45 : UInt8), (45 : UInt8),
 (97 : UInt8)]).data.toList,
 (ByteArray.mk
 #[(111 : UInt8), (114 : UInt8), (103 : UInt8)]).data.toList,
 (ByteArray.mk #[(110 : UInt8), (48 : UInt8)]).data.toList,
 (ByteArray.mk #[(99 : UInt8), (45 : UInt8)]).data.toList,
 (ByteArray.mk #[(45 : UInt8)]).data.toList]
 (lowN (intZ ns x.snd.snd.snd)
 (9 : Int)))
 x_1.snd)])),
 ((9 : Nat),
 PV.str
 (x.snd.fst ++
 strZ
 [(ByteArray.mk #[(97 : UInt8)]).data.toList,
 (ByteArray.mk
 #[(101 : UInt8), (120 : UInt8), (97 : UInt8), (109 : UInt8),
 (112 : UInt8), (108 : UInt8), (101 : UInt8)]).data.toList,
 (ByteArray.mk #[(120 : UInt8), (45 : UInt8), (49 : UInt8)]).data.toList,
 (ByteArray.mk #[(120 : UInt8), (110 : UInt8), (45 : UInt8)]).data.toList,
 (ByteArray.mk
 #[(120 : UInt8), (110 : UInt8), (45 : UInt8), (45 : UInt8),
 (97 : UInt8)]).data.toList,
 (ByteArray.mk #[(111 : UInt8), (114 : UInt8), (103 : UInt8)]).data.toList,
 (ByteArray.mk #[(110 : UInt8), (48 : UInt8)]).data.toList,
 (ByteArray.mk #[(99 : UInt8), (45 : UInt8)]).data.toList,
 (ByteArray.mk #[(45 : UInt8)]).data.toList]
 (lowN (intZ ns x.snd.snd.snd)
 (9 : Int)))),
 ((10 : Nat),
 PV.bool
 (bif x.snd.snd.fst then true
 else
 decide
 (strZ
 [(ByteArray.mk #[(97 : UInt8)]).data.toList,
 (ByteArray.mk
 #[(101 : UInt8), (120 : UInt8), (97 : UInt8), (109 : UInt8),
 (112 : UInt8), (108 : UInt8), (101 : UInt8)]).data.toList,
 (ByteArray.mk
 #[(120 : UInt8), (45 : UInt8), (49 : UInt8)]).data.toList,
 (ByteArray.mk
 #[(120 : UInt8), (110 : UInt8), (45 : UInt8)]).data.toList,
 (ByteArray.mk
 #[(120 : UInt8), (110 : UInt8), (45 : UInt8), (45 : UInt8),
 (97 : UInt8)]).data.toList,
 (ByteArray.mk
 #[(111 : UInt8), (114 : UInt8), (103 : UInt8)]).data.toList,
 (ByteArray.mk #[(110 : UInt8), (48 : UInt8)]).data.toList,
 (ByteArray.mk #[(99 : UInt8), (45 : UInt8)]).data.toList,
 (ByteArray.mk #[(45 : UInt8)]).data.toList]
 (lowN (intZ ns x.snd.snd.snd)
 (9 : Int)) =
 (ByteArray.mk
 #[(120 : UInt8), (110 : UInt8), (45 : UInt8), (45 : UInt8),
 (97 : UInt8)]).data.toList))),
 ((11 : Nat), PV.int Go.IntKind.i64 x.snd.snd.snd),
 ((12 : Nat),
 PV.str
 (strZ
 [(ByteArray.mk #[(97 : UInt8)]).data.toList,
 (ByteArray.mk
 #[(101 : UInt8), (120 : UInt8), (97 : UInt8), (109 : UInt8),
 (112 : UInt8), (108 : UInt8), (101 : UInt8)]).data.toList,
 (ByteArray.mk #[(120 : UInt8), (45 : UInt8), (49 : UInt8)]).data.toList,
 (ByteArray.mk #[(120 : UInt8), (110 : UInt8), (45 : UInt8)]).data.toList,
 (ByteArray.mk
 #[(120 : UInt8), (110 : UInt8), (45 : UInt8), (45 : UInt8),
 (97 : UInt8)]).data.toList,
 (ByteArray.mk #[(111 : UInt8), (114 : UInt8), (103 : UInt8)]).data.toList,
 (ByteArray.mk #[(110 : UInt8), (48 : UInt8)]).data.toList,
 (ByteArray.mk #[(99 : UInt8), (45 : UInt8)]).data.toList,
 (ByteArray.mk #[(45 : UInt8)]).data.toList]
 (lowN (intZ ns x.snd.snd.snd)
 (9 : Int)))),
 ((13 : Nat), PV.int Go.IntKind.i64 (x_1.snd + (1 : Int))),
 ((14 : Nat), PV.undef), (nat_lit 15, PV.undef),
 (nat_lit 16, PV.undef),
 (nat_lit 24,
 PV.bool
 (bif decide (Int.ofNat ns.length < (1 : Int)) then true
 else decide ((6 : Int) < Int.ofNat ns.length))),
 ((30 : Nat), PV.bool (decide (x.snd.snd.snd < Int.ofNat ns.length))),
 ((47 : Nat), PV.bool (decide ((0 : Int) < x.snd.snd.snd))),
 ((58 : Nat), PV.undef), ((72 : Nat), PV.undef),
 ((90 : Nat), PV.undef), (nat_lit 105, PV.undef)]
 [] ∧
 NamI x.fst
 (strZ
 [(ByteArray.mk #[(97 : UInt8)]).data.toList,
 (ByteArray.mk
 #[(101 : UInt8), (120 : UInt8), (97 : UInt8), (109 : UInt8), (112 : UInt8),
 (108 : UInt8), (101 : UInt8)]).data.toList,
 (ByteArray.mk #[(120 : UInt8), (45 : UInt8), (49 : UInt8)]).data.toList,
 (ByteArray.mk #[(120 : UInt8), (110 : UInt8), (45 : UInt8)]).data.toList,
 (ByteArray.mk
 #[(120 : UInt8), (110 : UInt8), (45 : UInt8), (45 : UInt8),
 (97 : UInt8)]).data.toList,
 (ByteArray.mk #[(111 : UInt8), (114 : UInt8), (103 : UInt8)]).data.toList,
 (ByteArray.mk #[(110 : UInt8), (48 : UInt8)]).data.toList,
 (ByteArray.mk #[(99 : UInt8), (45 : UInt8)]).data.toList,
 (ByteArray.mk #[(45 : UInt8)]).data.toList]
 (lowN (intZ ns x.snd.snd.snd) (9 : Int)))
 (x_1.fst ++
 [zByte
 (byteZ
 (strZ
 [(ByteArray.mk #[(97 : UInt8)]).data.toList,
 (ByteArray.mk
 #[(101 : UInt8), (120 : UInt8), (97 : UInt8), (109 : UInt8),
 (112 : UInt8), (108 : UInt8), (101 : UInt8)]).data.toList,
 (ByteArray.mk #[(120 : UInt8), (45 : UInt8), (49 : UInt8)]).data.toList,
 (ByteArray.mk #[(120 : UInt8), (110 : UInt8), (45 : UInt8)]).data.toList,
 (ByteArray.mk
 #[(120 : UInt8), (110 : UInt8), (45 : UInt8), (45 : UInt8),
 (97 : UInt8)]).data.toList,
 (ByteArray.mk #[(111 : UInt8), (114 : UInt8), (103 : UInt8)]).data.toList,
 (ByteArray.mk #[(110 : UInt8), (48 : UInt8)]).data.toList,
 (ByteArray.mk #[(99 : UInt8), (45 : UInt8)]).data.toList,
 (ByteArray.mk #[(45 : UInt8)]).data.toList]
 (lowN (intZ ns x.snd.snd.snd)
 (9 : Int)))
 x_1.snd)])
 (x_1.snd + (1 : Int)) ∧
 (↑(List.length
 (strZ
 [(ByteArray.mk #[(97 : UInt8)]).data.toList,
 (ByteArray.mk
 #[(101 : UInt8), (120 : UInt8), (97 : UInt8), (109 : UInt8),
 (112 : UInt8), (108 : UInt8), (101 : UInt8)]).data.toList,
 (ByteArray.mk #[(120 : UInt8), (45 : UInt8), (49 : UInt8)]).data.toList,
 (ByteArray.mk #[(120 : UInt8), (110 : UInt8), (45 : UInt8)]).data.toList,
 (ByteArray.mk
 #[(120 : UInt8), (110 : UInt8), (45 : UInt8), (45 : UInt8),
 (97 : UInt8)]).data.toList,
 (ByteArray.mk #[(111 : UInt8), (114 : UInt8), (103 : UInt8)]).data.toList,
 (ByteArray.mk #[(110 : UInt8), (48 : UInt8)]).data.toList,
 (ByteArray.mk #[(99 : UInt8), (45 : UInt8)]).data.toList,
 (ByteArray.mk #[(45 : UInt8)]).data.toList]
 (lowN (intZ ns x.snd.snd.snd)
 (9 : Int)))) -
 (x_1.snd + (1 : Int))).toNat <
 (↑(List.length
 (strZ
 [(ByteArray.mk #[(97 : UInt8)]).data.toList,
 (ByteArray.mk
 #[(101 : UInt8), (120 : UInt8), (97 : UInt8), (109 : UInt8),
 (112 : UInt8), (108 : UInt8), (101 : UInt8)]).data.toList,
 (ByteArray.mk #[(120 : UInt8), (45 : UInt8), (49 : UInt8)]).data.toList,
 (ByteArray.mk #[(120 : UInt8), (110 : UInt8), (45 : UInt8)]).data.toList,
 (ByteArray.mk
 #[(120 : UInt8), (110 : UInt8), (45 : UInt8), (45 : UInt8),
 (97 : UInt8)]).data.toList,
 (ByteArray.mk #[(111 : UInt8), (114 : UInt8), (103 : UInt8)]).data.toList,
 (ByteArray.mk #[(110 : UInt8), (48 : UInt8)]).data.toList,
 (ByteArray.mk #[(99 : UInt8), (45 : UInt8)]).data.toList,
 (ByteArray.mk #[(45 : UInt8)]).data.toList]
 (lowN (intZ ns x.snd.snd.snd)
 (9 : Int)))) -
 x_1.snd).toNat))) ∧
 (decide
 (x_1.snd <
 lenZ
 (strZ
 [(ByteArray.mk #[(97 : UInt8)]).data.toList,
 (ByteArray.mk
 #[(101 : UInt8), (120 : UInt8), (97 : UInt8), (109 : UInt8), (112 : UInt8), (108 : UInt8),
 (101 : UInt8)]).data.toList,
 (ByteArray.mk #[(120 : UInt8), (45 : UInt8), (49 : UInt8)]).data.toList,
 (ByteArray.mk #[(120 : UInt8), (110 : UInt8), (45 : UInt8)]).data.toList,
 (ByteArray.mk #[(120 : UInt8), (110 : UInt8), (45 : UInt8), (45 : UInt8), (97 : UInt8)]).data.toList,
 (ByteArray.mk #[(111 : UInt8), (114 : UInt8), (103 : UInt8)]).data.toList,
 (ByteArray.mk #[(110 : UInt8), (48 : UInt8)]).data.toList,
 (ByteArray.mk #[(99 : UInt8), (45 : UInt8)]).data.toList, (ByteArray.mk #[(45 : UInt8)]).data.toList]
 (lowN (intZ ns x.snd.snd.snd) (9 : Int)))) =
 false →
 inI64 (x.snd.snd.snd + (1 : Int)) ∧
 VS.mk []
 [(nat_lit 0, PV.row nl (BRow.ints Go.IntKind.i64 ns) (0 : Nat)),
 (nat_lit 1, PV.vec nl2 (1 : Nat) shp (0 : Nat)), (nat_lit 2, PV.bool g),
 (nat_lit 6, PV.bool false),
 (nat_lit 7,
 PV.row false
 (BRow.strs
 [(ByteArray.mk #[(97 : UInt8)]).data.toList,
 (ByteArray.mk
 #[(101 : UInt8), (120 : UInt8), (97 : UInt8), (109 : UInt8), (112 : UInt8), (108 : UInt8),
 (101 : UInt8)]).data.toList,
 (ByteArray.mk #[(120 : UInt8), (45 : UInt8), (49 : UInt8)]).data.toList,
 (ByteArray.mk #[(120 : UInt8), (110 : UInt8), (45 : UInt8)]).data.toList,
 (ByteArray.mk #[(120 : UInt8), (110 : UInt8), (45 : UInt8), (45 : UInt8), (97 : UInt8)]).data.toList,
 (ByteArray.mk #[(111 : UInt8), (114 : UInt8), (103 : UInt8)]).data.toList,
 (ByteArray.mk #[(110 : UInt8), (48 : UInt8)]).data.toList,
 (ByteArray.mk #[(99 : UInt8), (45 : UInt8)]).data.toList, (ByteArray.mk #[(45 : UInt8)]).data.toList])
 (0 : Nat)),
 ((8 : Nat), PV.str x_1.fst),
 ((9 : Nat),
 PV.str
 (x.snd.fst ++
 strZ
 [(ByteArray.mk #[(97 : UInt8)]).data.toList,
 (ByteArray.mk
 #[(101 : UInt8), (120 : UInt8), (97 : UInt8), (109 : UInt8), (112 : UInt8), (108 : UInt8),
 (101 : UInt8)]).data.toList,
 (ByteArray.mk #[(120 : UInt8), (45 : UInt8), (49 : UInt8)]).data.toList,
 (ByteArray.mk #[(120 : UInt8), (110 : UInt8), (45 : UInt8)]).data.toList,
 (ByteArray.mk
 #[(120 : UInt8), (110 : UInt8), (45 : UInt8), (45 : UInt8), (97 : UInt8)]).data.toList,
 (ByteArray.mk #[(111 : UInt8), (114 : UInt8), (103 : UInt8)]).data.toList,
 (ByteArray.mk #[(110 : UInt8), (48 : UInt8)]).data.toList,
 (ByteArray.mk #[(99 : UInt8), (45 : UInt8)]).data.toList,
 (ByteArray.mk #[(45 : UInt8)]).data.toList]
 (lowN (intZ ns x.snd.snd.snd) (9 : Int)))),
 ((10 : Nat),
 PV.bool
 (bif x.snd.snd.fst then true
 else
 decide
 (strZ
 [(ByteArray.mk #[(97 : UInt8)]).data.toList,
 (ByteArray.mk
 #[(101 : UInt8), (120 : UInt8), (97 : UInt8), (109 : UInt8), (112 : UInt8), (108 : UInt8),
 (101 : UInt8)]).data.toList,
 (ByteArray.mk #[(120 : UInt8), (45 : UInt8), (49 : UInt8)]).data.toList,
 (ByteArray.mk #[(120 : UInt8), (110 : UInt8), (45 : UInt8)]).data.toList,
 (ByteArray.mk
 #[(120 : UInt8), (110 : UInt8), (45 : UInt8), (45 : UInt8), (97 : UInt8)]).data.toList,
 (ByteArray.mk #[(111 : UInt8), (114 : UInt8), (103 : UInt8)]).data.toList,
 (ByteArray.mk #[(110 : UInt8), (48 : UInt8)]).data.toList,
 (ByteArray.mk #[(99 : UInt8), (45 : UInt8)]).data.toList,
 (ByteArray.mk #[(45 : UInt8)]).data.toList]
 (lowN (intZ ns x.snd.snd.snd) (9 : Int)) =
 (ByteArray.mk
 #[(120 : UInt8), (110 : UInt8), (45 : UInt8), (45 : UInt8), (97 : UInt8)]).data.toList))),
 ((11 : Nat), PV.int Go.IntKind.i64 (x.snd.snd.snd + (1 : Int))), ((12 : Nat), PV.undef),
 ((13 : Nat), PV.undef), ((14 : Nat), PV.undef), (nat_lit 15, PV.undef),
 (nat_lit 16, PV.undef),
 (nat_lit 24,
 PV.bool
 (bif decide (Int.ofNat ns.length < (1 : Int)) then true else decide ((6 : Int) < Int.ofNat ns.length))),
 ((30 : Nat), PV.undef), ((47 : Nat), PV.undef), ((58 : Nat), PV.undef),
 ((72 : Nat), PV.undef), ((90 : Nat), PV.undef), (nat_lit 105, PV.undef)]
 [] =
 VS.mk []
 [(nat_lit 0, PV.row nl (BRow.ints Go.IntKind.i64 ns) (0 : Nat)),
 (nat_lit 1, PV.vec nl2 (1 : Nat) shp (0 : Nat)), (nat_lit 2, PV.bool g),
 (nat_lit 6, PV.bool false),
 (nat_lit 7,
 PV.row false
 (BRow.strs
 [(ByteArray.mk #[(97 : UInt8)]).data.toList,
 (ByteArray.mk
 #[(101 : UInt8), (120 : UInt8), (97 : UInt8), (109 : UInt8), (112 : UInt8), (108 : UInt8),
 (101 : UInt8)]).data.toList,
 (ByteArray.mk #[(120 : UInt8), (45 : UInt8), (49 : UInt8)]).data.toList,
 (ByteArray.mk #[(120 : UInt8), (110 : UInt8), (45 : UInt8)]).data.toList,
 (ByteArray.mk #[(120 : UInt8), (110 : UInt8), (45 : UInt8), (45 : UInt8), (97 : UInt8)]).data.toList,
 (ByteArray.mk #[(111 : UInt8), (114 : UInt8), (103 : UInt8)]).data.toList,
 (ByteArray.mk #[(110 : UInt8), (48 : UInt8)]).data.toList,
 (ByteArray.mk #[(99 : UInt8), (45 : UInt8)]).data.toList, (ByteArray.mk #[(45 : UInt8)]).data.toList])
 (0 : Nat)),
 ((8 : Nat), PV.str x_1.fst),
 ((9 : Nat),
 PV.str
 (x.snd.fst ++
 strZ
 [(ByteArray.mk #[(97 : UInt8)]).data.toList,
 (ByteArray.mk
 #[(101 : UInt8), (120 : UInt8), (97 : UInt8), (109 : UInt8), (112 : UInt8), (108 : UInt8),
 (101 : UInt8)]).data.toList,
 (ByteArray.mk #[(120 : UInt8), (45 : UInt8), (49 : UInt8)]).data.toList,
 (ByteArray.mk #[(120 : UInt8), (110 : UInt8), (45 : UInt8)]).data.toList,
 (ByteArray.mk
 #[(120 : UInt8), (110 : UInt8), (45 : UInt8), (45 : UInt8), (97 : UInt8)]).data.toList,
 (ByteArray.mk #[(111 : UInt8), (114 : UInt8), (103 : UInt8)]).data.toList,
 (ByteArray.mk #[(110 : UInt8), (48 : UInt8)]).data.toList,
 (ByteArray.mk #[(99 : UInt8), (45 : UInt8)]).data.toList,
 (ByteArray.mk #[(45 : UInt8)]).data.toList]
 (lowN (intZ ns x.snd.snd.snd) (9 : Int)))),
 ((10 : Nat),
 PV.bool
 (bif x.snd.snd.fst then true
 else
 decide
 (strZ
 [(ByteArray.mk #[(97 : UInt8)]).data.toList,
 (ByteArray.mk
 #[(101 : UInt8), (120 : UInt8), (97 : UInt8), (109 : UInt8), (112 : UInt8), (108 : UInt8),
 (101 : UInt8)]).data.toList,
 (ByteArray.mk #[(120 : UInt8), (45 : UInt8), (49 : UInt8)]).data.toList,
 (ByteArray.mk #[(120 : UInt8), (110 : UInt8), (45 : UInt8)]).data.toList,
 (ByteArray.mk
 #[(120 : UInt8), (110 : UInt8), (45 : UInt8), (45 : UInt8), (97 : UInt8)]).data.toList,
 (ByteArray.mk #[(111 : UInt8), (114 : UInt8), (103 : UInt8)]).data.toList,
 (ByteArray.mk #[(110 : UInt8), (48 : UInt8)]).data.toList,
 (ByteArray.mk #[(99 : UInt8), (45 : UInt8)]).data.toList,
 (ByteArray.mk #[(45 : UInt8)]).data.toList]
 (lowN (intZ ns x.snd.snd.snd) (9 : Int)) =
 (ByteArray.mk
 #[(120 : UInt8), (110 : UInt8), (45 : UInt8), (45 : UInt8), (97 : UInt8)]).data.toList))),
 ((11 : Nat), PV.int Go.IntKind.i64 (x.snd.snd.snd + (1 : Int))), ((12 : Nat), PV.undef),
 ((13 : Nat), PV.undef), ((14 : Nat), PV.undef), (nat_lit 15, PV.undef),
 (nat_lit 16, PV.undef),
 (nat_lit 24,
 PV.bool
 (bif decide (Int.ofNat ns.length < (1 : Int)) then true else decide ((6 : Int) < Int.ofNat ns.length))),
 ((30 : Nat), PV.undef), ((47 : Nat), PV.undef), ((58 : Nat), PV.undef),
 ((72 : Nat), PV.undef), ((90 : Nat), PV.undef), (nat_lit 105, PV.undef)]
 [] ∧
 NamO ns x_1.fst
 (x.snd.fst ++
 strZ
 [(ByteArray.mk #[(97 : UInt8)]).data.toList,
 (ByteArray.mk
 #[(101 : UInt8), (120 : UInt8), (97 : UInt8), (109 : UInt8), (112 : UInt8), (108 : UInt8),
 (101 : UInt8)]).data.toList,
 (ByteArray.mk #[(120 : UInt8), (45 : UInt8), (49 : UInt8)]).data.toList,
 (ByteArray.mk #[(120 : UInt8), (110 : UInt8), (45 : UInt8)]).data.toList,
 (ByteArray.mk #[(120 : UInt8), (110 : UInt8), (45 : UInt8), (45 : UInt8), (97 : UInt8)]).data.toList,
 (ByteArray.mk #[(111 : UInt8), (114 : UInt8), (103 : UInt8)]).data.toList,
 (ByteArray.mk #[(110 : UInt8), (48 : UInt8)]).data.toList,
 (ByteArray.mk #[(99 : UInt8), (45 : UInt8)]).data.toList, (ByteArray.mk #[(45 : UInt8)]).data.toList]
 (lowN (intZ ns x.snd.snd.snd) (9 : Int)))
 (bif x.snd.snd.fst then true
 else
 decide
 (strZ
 [(ByteArray.mk #[(97 : UInt8)]).data.toList,
 (ByteArray.mk
 #[(101 : UInt8), (120 : UInt8), (97 : UInt8), (109 : UInt8), (112 : UInt8), (108 : UInt8),
 (101 : UInt8)]).data.toList,
 (ByteArray.mk #[(120 : UInt8), (45 : UInt8), (49 : UInt8)]).data.toList,
 (ByteArray.mk #[(120 : UInt8), (110 : UInt8), (45 : UInt8)]).data.toList,
 (ByteArray.mk #[(120 : UInt8), (110 : UInt8), (45 : UInt8), (45 : UInt8), (97 : UInt8)]).data.toList,
 (ByteArray.mk #[(111 : UInt8), (114 : UInt8), (103 : UInt8)]).data.toList,
 (ByteArray.mk #[(110 : UInt8), (48 : UInt8)]).data.toList,
 (ByteArray.mk #[(99 : UInt8), (45 : UInt8)]).data.toList, (ByteArray.mk #[(45 : UInt8)]).data.toList]
 (lowN (intZ ns x.snd.snd.snd) (9 : Int)) =
 (ByteArray.mk #[(120 : UInt8), (110 : UInt8), (45 : UInt8), (45 : UInt8), (97 : UInt8)]).data.toList))
 (x.snd.snd.snd + (1 : Int)) ∧
 (↑ns.length - (x.snd.snd.snd + (1 : Int))).toNat < (↑ns.length - x.snd.snd.snd).toNat))) ∧
 (decide (x.snd.snd.snd < Int.ofNat ns.length) = false →
 (List.length x.fst).le (1000000 : Nat) ∧
 (x.snd.snd.fst = true →
 ((bif decide ((hostM x.fst).snd.snd.snd.snd = (9 : Int)) then
 Bool.rec false
 (decide ((hostM x.fst).snd.fst = []) &&
 (decide ((hostM x.fst).snd.snd.fst = (0 : Int)) &&
 (decide ((hostM x.fst).snd.snd.snd.fst = List.replicate (8 : Nat) (0 : Int)) && true)))
 (decide ((hostM x.fst).fst = (0 : Int)))
 else false) =
 true →
 True) ∧
 k
 (PV.bool
 (bif
 bif decide ((hostM x.fst).snd.snd.snd.snd = (9 : Int)) then
 Bool.rec false
 (decide ((hostM x.fst).snd.fst = []) &&
 (decide ((hostM x.fst).snd.snd.fst = (0 : Int)) &&
 (decide ((hostM x.fst).snd.snd.snd.fst = List.replicate (8 : Nat) (0 : Int)) && true)))
 (decide ((hostM x.fst).fst = (0 : Int)))
 else false then
 true
 else false))) ∧
 (x.snd.snd.fst = false →
 ((bif decide ((hostM x.fst).snd.snd.snd.snd = (0 : Int)) then
 Bool.rec false
 (decide ((hostM x.fst).snd.fst = x.snd.fst) &&
 (decide ((hostM x.fst).snd.snd.fst = (0 : Int)) &&
 (decide ((hostM x.fst).snd.snd.snd.fst = List.replicate (8 : Nat) (0 : Int)) && true)))
 (decide ((hostM x.fst).fst = (2 : Int)))
 else false) =
 true →
 True) ∧
 k
 (PV.bool
 (bif
 bif decide ((hostM x.fst).snd.snd.snd.snd = (0 : Int)) then
 Bool.rec false
 (decide ((hostM x.fst).snd.fst = x.snd.fst) &&
 (decide ((hostM x.fst).snd.snd.fst = (0 : Int)) &&
 (decide ((hostM x.fst).snd.snd.snd.fst = List.replicate (8 : Nat) (0 : Int)) && true)))
 (decide ((hostM x.fst).fst = (2 : Int)))
 else false then
 true
 else false)))))) := by kernel_rfl
attribute [local irreducible] Go.Vc.evF
theorem ok_names (nl : Bool) (ns : List Int) (nl2 : Bool) (shp : List PV) (sh : List Bool) (g : Bool) : FuncOk Tryd.prog noT 4 [.row nl (.ints .i64 ns) 0, .vec nl2 1 shp 0, .bool g] ⟨shp = sh.map .bool ∧ ∀ z ∈ ns, -9223372036854775808 ≤ z ∧ z ≤ 9223372036854775807, .bool true⟩ := evF_ok (by kernel_rfl) X_names_ok (H := H_names nl ns nl2 shp sh g) (fuel := 1000) Tryd.func4 (by kernel_rfl) fun hpre => (vc_names nl ns nl2 shp sh g _).mpr (by
  obtain ⟨hsh, hns⟩ := hpre
  subst hsh
  have hml : Go.Vc.maxLen = 1099511627776 := rfl
  have hof : Int.ofNat ns.length = (ns.length : Int) := rfl
  rw [hof]
  refine ⟨fun _ => ⟨trivial, rfl⟩, fun h => ?_⟩
  have h16 : 1 ≤ ns.length ∧ ns.length ≤ 6 := by
    cases e1 : decide ((ns.length : Int) < 1) with
    | true => rw [e1] at h; cases h
    | false =>
      rw [e1] at h
      have d1 := of_decide_eq_false e1
      have d2 := of_decide_eq_false (show decide ((6 : Int) < (ns.length : Int)) = false from h)
      omega
  refine ⟨rfl, ⟨0, rfl, by omega, rfl, Dec.nil, rfl, fun h => absurd h (by decide), rfl, Nat.le_refl _, Nat.le_refl _⟩, fun x hx => ?_⟩
  obtain ⟨s, w, o, i⟩ := x
  obtain ⟨j, h1, h2, h3, h4, h5, h6, h7, h8, h9⟩ := hx
  dsimp only at h1 h2 h3 h4 h5 h6 h7 h8 h9 ⊢
  subst h1
  have e1 : (j : Int) + 1 = ((j + 1 : Nat) : Int) := by push_cast; rfl
  have hT : strZ [(ByteArray.mk #[(97 : UInt8)]).data.toList, (ByteArray.mk #[(101 : UInt8), (120 : UInt8), (97 : UInt8), (109 : UInt8), (112 : UInt8), (108 : UInt8), (101 : UInt8)]).data.toList, (ByteArray.mk #[(120 : UInt8), (45 : UInt8), (49 : UInt8)]).data.toList, (ByteArray.mk #[(120 : UInt8), (110 : UInt8), (45 : UInt8)]).data.toList, (ByteArray.mk #[(120 : UInt8), (110 : UInt8), (45 : UInt8), (45 : UInt8), (97 : UInt8)]).data.toList, (ByteArray.mk #[(111 : UInt8), (114 : UInt8), (103 : UInt8)]).data.toList, (ByteArray.mk #[(110 : UInt8), (48 : UInt8)]).data.toList, (ByteArray.mk #[(99 : UInt8), (45 : UInt8)]).data.toList, (ByteArray.mk #[(45 : UInt8)]).data.toList] (lowN (intZ ns (j : Int)) 9) = lab (intZ ns (j : Int)) := rfl
  refine ⟨fun h => ?_, fun h => ?_⟩
  · have hjl : j < ns.length := by have := of_decide_eq_true h; omega
    have hzm : intZ ns (j : Int) ∈ ns := by
      unfold intZ
      rw [Int.toNat_natCast, List.getD_eq_getElem?_getD, List.getElem?_eq_getElem hjl]
      exact List.getElem_mem hjl
    have hlabs : labs ns (j + 1) = labs ns j ++ [lab (intZ ns (j : Int))] := by
      unfold labs
      rw [List.take_add_one, List.map_append, List.getElem?_eq_getElem hjl]
      congr 2
      show [lab _] = [lab _]
      unfold intZ
      rw [Int.toNat_natCast, List.getD_eq_getElem?_getD, List.getElem?_eq_getElem hjl]; rfl
    rw [hT]
    obtain ⟨z, hz⟩ : ∃ z, intZ ns (j : Int) = z := ⟨_, rfl⟩
    rw [hz] at hzm hlabs ⊢
    have hzr := hns z hzm
    have hbd := lowN_bd z 9 (by decide)
    have htm := lab_mem z
    obtain ⟨t, ht⟩ : ∃ t, lab z = t := ⟨_, rfl⟩
    rw [ht] at hlabs htm ⊢
    have htl := lab_len t htm
    have hany : (bif o then true else decide (t = (ByteArray.mk #[(120 : UInt8), (110 : UInt8), (45 : UInt8), (45 : UInt8), (97 : UInt8)]).data.toList)) = (labs ns (j + 1)).any (fun t => decide (t = xna)) := by
      rw [hlabs, List.any_append, ← h7]
      cases o with
      | true => rfl
      | false =>
        show decide (t = xna) = (false || (decide (t = xna) || false))
        rw [Bool.or_false, Bool.false_or]
    refine ⟨by unfold within; omega, ⟨hzr.1, hzr.2, by decide, by decide⟩, ⟨hbd.1, hbd.2⟩, fun h0 => ?_, fun h0 => ?_⟩
    · have hj0 : 0 < j := by have := of_decide_eq_true h0; omega
      have hsne := h6 hj0
      refine ⟨by show s.length + 1 ≤ _; omega, by show w.length + 1 ≤ _; omega, by rw [List.length_append]; show w.length + 1 + t.length ≤ _; omega, rfl, ⟨0, rfl, by omega, fun w0 hw => by rw [List.take_zero, List.append_nil]; exact hw, id, fun _ => by simp, by omega⟩, ?_⟩
      refine bodN_ok (s ++ [46]) t htm (j : Int) (by omega) (by omega) sh g _ _ _ _ _ (by rw [List.length_append]; show s.length + 1 ≤ _; omega) (fun _ => rfl) (fun _ => rfl) (fun _ => rfl) (fun _ => rfl) (fun y hy he => ?_)
      obtain ⟨y, q⟩ := y
      obtain ⟨k, hk, k2, k3, k4, k5, k6⟩ := hy
      dsimp only at hk k2 k3 k4 k5 k6 he ⊢
      have hkt : k = t.length := by omega
      have k3' := k3 (w ++ [46]) (h4.snoc (by decide) (by decide))
      rw [hkt, List.take_length] at k3'
      have hs1 : (s ++ [46]).length = s.length + 1 := by rw [List.length_append]; rfl
      refine ⟨by unfold inI64; omega, rfl, ⟨j + 1, e1, by omega, ?_, k3', k4 (pre_snoc 46 [] (by decide) h5), fun _ => k5 (.inr (by simp)), hany, by omega, ?_⟩, by omega⟩
      · have hln : labs ns j ≠ [] := fun e => by
          have := congrArg List.length e
          unfold labs at this
          rw [List.length_map, List.length_take] at this
          have h00 : ([] : List Bs).length = 0 := rfl
          omega
        rw [hlabs, want_snoc hln, ← h3]
        show w ++ [46] ++ t = w ++ 46 :: t
        rw [List.append_assoc]; rfl
      · rw [List.length_append, List.length_append]; show w.length + 1 + t.length ≤ _; omega
    · have hj0 : j = 0 := by have := of_decide_eq_false h0; omega
      subst hj0
      refine ⟨by show w.length + t.length ≤ _; omega, rfl, ⟨0, rfl, by omega, fun w0 hw => by rw [List.take_zero, List.append_nil]; exact hw, id, fun h => h.elim (fun h => absurd h (by decide)) id, by omega⟩, ?_⟩
      refine bodN_ok s t htm ((0 : Nat) : Int) (by omega) (by omega) sh g _ _ _ _ _ (by omega) (fun _ => rfl) (fun _ => rfl) (fun _ => rfl) (fun _ => rfl) (fun y hy he => ?_)
      obtain ⟨y, q⟩ := y
      obtain ⟨k, hk, k2, k3, k4, k5, k6⟩ := hy
      dsimp only at hk k2 k3 k4 k5 k6 he ⊢
      have hkt : k = t.length := by omega
      have ht0 : 0 < t.length := List.length_pos_iff.2 (lab_all t htm).2.1
      have k3' := k3 w h4
      rw [hkt, List.take_length] at k3'
      refine ⟨by unfold inI64; omega, rfl, ⟨0 + 1, e1, by omega, ?_, k3', k4 h5, fun _ => k5 (.inl (by omega)), hany, by omega, ?_⟩, by omega⟩
      · rw [hlabs, h3]
        show [] ++ t = wantW [t]
        rw [want_one]; rfl
      · rw [List.length_append]; omega
  · have hjl : j = ns.length := by have := of_decide_eq_false h; omega
    have hln : labs ns j ≠ [] := fun e => by
      have := congrArg List.length e
      unfold labs at this
      rw [List.length_map, List.length_take] at this
      have h00 : ([] : List Bs).length = 0 := rfl
      omega
    have hall : ∀ t ∈ labs ns j, t ∈ LSL := fun t ht => by
      unfold labs at ht
      obtain ⟨n, -, rfl⟩ := List.mem_map.1 ht
      exact lab_mem n
    have hH := host_names hln hall (h3 ▸ h4) h5
    rw [← h7, ← h3] at hH
    refine ⟨Nat.le_trans (show s.length ≤ 600 by omega) (by decide), fun ho => ?_, fun ho => ?_⟩
    · rw [ho, if_pos rfl] at hH
      rw [hH]
      exact ⟨fun _ => trivial, rfl⟩
    · rw [ho, if_neg (by decide)] at hH
      rw [hH]
      refine ⟨fun _ => trivial, ?_⟩
      dsimp only
      rw [decide_eq_true (rfl : w = w)]
      rfl)
end Go.Proofs.YtjljhkjpogjdhaaDoor
end
