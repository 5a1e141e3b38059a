import Derived.Deep.RegionWith
import Derived.Test.YtncfmmpdlcnboaaTq8
import Derived.Test.YtncfmmpdlcnboaaTq9
import Derived.Test.YtncfmmpdlcnboaaTq10
import Derived.Test.YtncfmmpdlcnboaaTq12
set_option linter.unusedVariables false
set_option linter.unusedSimpArgs false
namespace Go.Proofs.Ytncfmmpdlcnboaa
open Go.RowKit
def sigB (c : Int) : Bool := decide (c = 123 ∨ c = 125 ∨ c = 91 ∨ c = 93 ∨ c = 58 ∨ c = 44)
def tokM (b : List UInt8) (i : Nat) : Tk × Nat × Bool :=
  if sigB (byt b i) = true then ((signN (byt b i), i, []), i + 1, true)
  else if byt b i = 116 then ((9, i, []), (wordM b [116, 114, 117, 101] i).1, (wordM b [116, 114, 117, 101] i).2)
  else if byt b i = 102 then ((10, i, []), (wordM b [102, 97, 108, 115, 101] i).1, (wordM b [102, 97, 108, 115, 101] i).2)
  else if byt b i = 110 then ((11, i, []), (wordM b [110, 117, 108, 108] i).1, (wordM b [110, 117, 108, 108] i).2)
  else if byt b i = 34 then ((7, i, (strM b (i + 1) []).1), (strM b (i + 1) []).2.1, (strM b (i + 1) []).2.2)
  else if byt b i = 45 ∨ digC (byt b i) = true then ((8, i, sub8 b i (numM b i).1), (numM b i).1, (numM b i).2)
  else ((0, i, []), i, false)
set_option maxRecDepth 100000 in
set_option maxHeartbeats 16000000 in
theorem token_any (g : Nat) (vb : Value) (b : List UInt8) (i : Nat) (keep : Bool) (n : Int) (vt : Value) (ts : List Tk) (B : Nat) (w : World) (hs : Scan w g vb i keep n vt) (ht : TextB w B vb b) (ho : OwnT w B vt ts) (hB : B ≤ g) (hn0 : 0 ≤ n) (hn1 : n ≤ 5000000) (hl : ts.length ≤ 5000000) (hi : i < b.length) :
    Calls Try.prog 26 #[.pointer (some ⟨g, 0, none⟩)] w fun e w' => e = .returned (.bool (tokM b i).2.2) ∧ Behind w w' g B vb keep n ts (tokM b i).1 (tokM b i).2.1 (tokM b i).2.2 := by
  have hm := ht.le
  have d0 : w.cell? ⟨g, 0, none⟩ = some vb := by rw [Box.cell hs]; rfl
  have d1 : w.cell? ⟨g, 1, none⟩ = some (.int .i64 i) := hs.c1
  have hgw := Box.lt hs
  have HS := Lib.hid hs
  have HO := Lib.hid ho
  have HT := Lib.hid ht
  have HW := Lib.hid (fun k wd kd (hw : wd.length ≤ 10) => word_any g vb b i keep n vt ts B wd kd (w.drewN k) (Box.drew hs k) ⟨ht.is, ht.lt, ht.le⟩ ho hB hn0 hn1 hl (by omega) hw)
  have HTX := Lib.hid (fun k => text_any g vb b i keep n vt ts B (w.drewN k) (Box.drew hs k) ⟨ht.is, ht.lt, ht.le⟩ ho hB hn0 hn1 hl hi)
  have HNM := Lib.hid (fun k => nmeth_any g vb b i keep n vt ts B (w.drewN k) (Box.drew hs k) ⟨ht.is, ht.lt, ht.le⟩ ho hB hn0 hn1 hl (by omega))
  have HBE : Hid (∀ (k : Nat) (w' : World) t p ok, Behind (w.drewN k) w' g B vb keep n ts t p ok → Behind w w' g B vb keep n ts t p ok) := Lib.hid (fun k w' t p ok ⟨v, a1, a2, a3⟩ => ⟨v, a1, a2, (below_dr (Below.refl B w) k).trans a3⟩)
  have HTM : Hid (tokM b i = if sigB (byt b i) = true then ((signN (byt b i), i, []), i + 1, true)
    else if byt b i = 116 then ((9, i, []), (wordM b [116, 114, 117, 101] i).1, (wordM b [116, 114, 117, 101] i).2)
    else if byt b i = 102 then ((10, i, []), (wordM b [102, 97, 108, 115, 101] i).1, (wordM b [102, 97, 108, 115, 101] i).2)
    else if byt b i = 110 then ((11, i, []), (wordM b [110, 117, 108, 108] i).1, (wordM b [110, 117, 108, 108] i).2)
    else if byt b i = 34 then ((7, i, (strM b (i + 1) []).1), (strM b (i + 1) []).2.1, (strM b (i + 1) []).2.2)
    else if byt b i = 45 ∨ digC (byt b i) = true then ((8, i, sub8 b i (numM b i).1), (numM b i).1, (numM b i).2)
    else ((0, i, []), i, false)) := Lib.hid rfl
  clear hs ho ht
  obtain ⟨a, cap, e, h1, h2, -, h4⟩ := HT.out.is
  subst e
  unfold maxLen at h2
  obtain ⟨bb, off, rfl, hc⟩ := h4 (by omega)
  have hcell : w.cell? ⟨bb, off + i, none⟩ = some (.int .u8 (byt b i)) := hc.at i hi
  have hiI : (i : Int) < (b.length : Int) := by omega
  clear hc h4
  obtain ⟨c, hcc⟩ : ∃ c, byt b i = c := ⟨_, rfl⟩
  rw [hcc] at hcell HTM
  clear hcc
  by_cases k0 : c = 123 ∨ c = 125 ∨ c = 91 ∨ c = 93 ∨ c = 58 ∨ c = 44
  · have HF : Hid (tokM b i = ((signN c, i, []), i + 1, true)) := Lib.hid (by rw [HTM.out, if_pos (show sigB c = true from decide_eq_true k0)])
    have HSG := Lib.hid (fun W => sign_any c W k0)
    have HPUT := Lib.hid (fun W (q1 : Scan W g (.slice (some ⟨bb, off, none⟩) b.length cap) i keep n vt) (q2 : OwnT W B vt ts) => put_any g _ i keep n vt ts B (signN c) i [] W q1 q2 hB hn0 hn1 hl)
    clear HTM HW HTX HNM
    rcases k0 with rfl | rfl | rfl | rfl | rfl | rfl
    all_goals
      go_enter Try.func26, Try.ntmps26
      go_wp2_with fail
      go_quiet (fail)
      go_wp2_with fail
      go_region_with (first
        | (go_at_call 39; refine (HSG.out _).mono ?_; rintro e w' ⟨rfl, rfl⟩)
        | (go_at_call 38; refine (HPUT.out _ (by exact HS.out) (by exact HO.out)).mono ?_; rintro e x2 ⟨rfl, vt2, hs3, ho3, hb3⟩; have HS3 := Lib.hid hs3; have HO3 := Lib.hid ho3; have HB3 := Lib.hid hb3; have e1 := Scan.c1 hs3; have e2 := Box.frozen hs3 1; clear hs3 ho3 hb3))
      all_goals
        go_wp2_with fail
        go_ret
        refine ⟨ret_b (by rw [HF.out]), ?_⟩
        rw [HF.out]
        refine ⟨vt2, HS3.out.to0 (i + 1) _ (by omega), ?_, ?_⟩
        · have h := HO3.out.kept (grownBy_set x2 g 1 (.int .i64 ((i : Int) + 1))) (.inr (HO3.out.ne HS3.out))
          cases keep with
          | true => exact h
          | false => exact h
        · exact ((below_dr (below_dr (Below.refl B w) _) 1).trans HB3.out).setCell hB _
  have k0' : sigB c = false := decide_eq_false k0
  by_cases k1 : c = 116
  · subst k1
    have HF : Hid (tokM b i = ((9, i, []), (wordM b [116, 114, 117, 101] i).1, (wordM b [116, 114, 117, 101] i).2)) := Lib.hid (by rw [HTM.out, if_neg (by rw [k0']; simp), if_pos rfl])
    clear HTM k0 k0'
    go_enter Try.func26, Try.ntmps26
    go_wp2_with fail
    go_quiet (fail)
    go_wp2_with fail
    refine (HW.out _ _ _ (by decide)).mono ?_
    rintro e w' ⟨rfl, hbe⟩
    have HB := Lib.hid (HBE.out _ _ _ _ _ hbe)
    clear hbe
    go_wp2_with fail
    go_ret
    exact ⟨ret_b (by rw [HF.out]), by rw [HF.out]; exact HB.out⟩
  by_cases k2 : c = 102
  · subst k2
    have HF : Hid (tokM b i = ((10, i, []), (wordM b [102, 97, 108, 115, 101] i).1, (wordM b [102, 97, 108, 115, 101] i).2)) := Lib.hid (by rw [HTM.out, if_neg (by rw [k0']; simp), if_neg k1, if_pos rfl])
    clear HTM k0 k0' k1
    go_enter Try.func26, Try.ntmps26
    go_wp2_with fail
    go_quiet (fail)
    go_wp2_with fail
    refine (HW.out _ _ _ (by decide)).mono ?_
    rintro e w' ⟨rfl, hbe⟩
    have HB := Lib.hid (HBE.out _ _ _ _ _ hbe)
    clear hbe
    go_wp2_with fail
    go_ret
    exact ⟨ret_b (by rw [HF.out]), by rw [HF.out]; exact HB.out⟩
  by_cases k3 : c = 110
  · subst k3
    have HF : Hid (tokM b i = ((11, i, []), (wordM b [110, 117, 108, 108] i).1, (wordM b [110, 117, 108, 108] i).2)) := Lib.hid (by rw [HTM.out, if_neg (by rw [k0']; simp), if_neg k1, if_neg k2, if_pos rfl])
    clear HTM k0 k0' k1 k2
    go_enter Try.func26, Try.ntmps26
    go_wp2_with fail
    go_quiet (fail)
    go_wp2_with fail
    refine (HW.out _ _ _ (by decide)).mono ?_
    rintro e w' ⟨rfl, hbe⟩
    have HB := Lib.hid (HBE.out _ _ _ _ _ hbe)
    clear hbe
    go_wp2_with fail
    go_ret
    exact ⟨ret_b (by rw [HF.out]), by rw [HF.out]; exact HB.out⟩
  by_cases k4 : c = 34
  · subst k4
    have HF : Hid (tokM b i = ((7, i, (strM b (i + 1) []).1), (strM b (i + 1) []).2.1, (strM b (i + 1) []).2.2)) := Lib.hid (by rw [HTM.out, if_neg (by rw [k0']; simp), if_neg k1, if_neg k2, if_neg k3, if_pos rfl])
    clear HTM k0 k0' k1 k2 k3
    go_enter Try.func26, Try.ntmps26
    go_wp2_with fail
    go_quiet (fail)
    go_wp2_with fail
    refine (HTX.out _).mono ?_
    rintro e w' ⟨rfl, hbe⟩
    have HB := Lib.hid (HBE.out _ _ _ _ _ hbe)
    clear hbe
    go_wp2_with fail
    go_ret
    exact ⟨ret_b (by rw [HF.out]), by rw [HF.out]; exact HB.out⟩
  have k0n : c ≠ 123 ∧ c ≠ 125 ∧ c ≠ 91 ∧ c ≠ 93 ∧ c ≠ 58 ∧ c ≠ 44 := by omega
  obtain ⟨n1, n2, n3, n4, n5, n6⟩ := k0n
  have g01 : (c == 123) = false := by simpa using n1
  have g02 : (c == 125) = false := by simpa using n2
  have g03 : (c == 91) = false := by simpa using n3
  have g04 : (c == 93) = false := by simpa using n4
  have g05 : (c == 58) = false := by simpa using n5
  have g06 : (c == 44) = false := by simpa using n6
  have g07 : (c == 116) = false := by simpa using k1
  have g08 : (c == 102) = false := by simpa using k2
  have g09 : (c == 110) = false := by simpa using k3
  have g10 : (c == 34) = false := by simpa using k4
  clear n1 n2 n3 n4 n5 n6
  by_cases k5 : c = 45
  · have HF : Hid (tokM b i = ((8, i, sub8 b i (numM b i).1), (numM b i).1, (numM b i).2)) := Lib.hid (by rw [HTM.out, if_neg (by rw [k0']; simp), if_neg k1, if_neg k2, if_neg k3, if_neg k4, if_pos (.inl k5)])
    have g11 : (c == 45) = true := by simpa using k5
    clear HTM k0 k0' k1 k2 k3 k4 k5
    go_enter Try.func26, Try.ntmps26
    go_wp2_with fail
    go_quiet (fail)
    go_wp2_with fail
    refine (HNM.out _).mono ?_
    rintro e w' ⟨rfl, hbe⟩
    have HB := Lib.hid (HBE.out _ _ _ _ _ hbe)
    clear hbe
    go_wp2_with fail
    go_ret
    exact ⟨ret_b (by rw [HF.out]), by rw [HF.out]; exact HB.out⟩
  have g11 : (c == 45) = false := by simpa using k5
  have HDG := Lib.hid (digit_any c)
  cases hd : digC c with
  | true =>
    have HF : Hid (tokM b i = ((8, i, sub8 b i (numM b i).1), (numM b i).1, (numM b i).2)) := Lib.hid (by rw [HTM.out, if_neg (by rw [k0']; simp), if_neg k1, if_neg k2, if_neg k3, if_neg k4, if_pos (.inr hd)])
    rw [hd] at HDG
    clear HTM k0 k0' k1 k2 k3 k4 k5 hd
    go_enter Try.func26, Try.ntmps26
    go_wp2_with fail
    go_quiet (fail)
    go_wp2_with fail
    refine (HDG.out _).mono ?_
    rintro e w' ⟨rfl, rfl⟩
    go_wp2_with fail
    refine (HNM.out _).mono ?_
    rintro e w' ⟨rfl, hbe⟩
    have HB := Lib.hid (HBE.out _ _ _ _ _ hbe)
    clear hbe
    go_wp2_with fail
    go_ret
    exact ⟨ret_b (by rw [HF.out]), by rw [HF.out]; exact HB.out⟩
  | false =>
    have HF : Hid (tokM b i = ((0, i, []), i, false)) := Lib.hid (by rw [HTM.out, if_neg (by rw [k0']; simp), if_neg k1, if_neg k2, if_neg k3, if_neg k4, if_neg (by rintro (h | h); exact k5 h; rw [hd] at h; cases h)])
    rw [hd] at HDG
    clear HTM k0 k0' k1 k2 k3 k4 k5 hd
    go_enter Try.func26, Try.ntmps26
    go_wp2_with fail
    go_quiet (fail)
    go_wp2_with fail
    refine (HDG.out _).mono ?_
    rintro e w' ⟨rfl, rfl⟩
    go_wp2_with fail
    go_ret
    refine ⟨ret_b (by rw [HF.out]), ?_⟩
    rw [HF.out]
    exact ⟨vt, Box.drew HS.out _, HO.out, below_dr (Below.refl B w) _⟩
theorem tokM_bd {b : List UInt8} {i : Nat} (h : i < b.length) : (tokM b i).2.1 ≤ b.length ∧ ((tokM b i).2.2 = true → i < (tokM b i).2.1) := by
  unfold tokM
  have wd : ∀ l : List UInt8, (∀ c ∈ l, c ≠ 0) → ∀ x t, l = x :: t → byt b i = (x.toNat : Int) → (wordM b l i).1 ≤ b.length ∧ i < (wordM b l i).1 := by
    intro l hl x t e hx
    subst e
    have h2 := wordM_bd b t (i + 1) (fun c hc => hl c (List.mem_cons_of_mem _ hc)) (by omega)
    unfold wordM
    rw [if_pos hx]
    omega
  split
  · exact ⟨by show i + 1 ≤ _; omega, fun _ => by show i < i + 1; omega⟩
  split
  · rename_i h1
    have := wd [116, 114, 117, 101] (by decide) 116 _ rfl h1
    exact ⟨this.1, fun _ => this.2⟩
  split
  · rename_i h1
    have := wd [102, 97, 108, 115, 101] (by decide) 102 _ rfl h1
    exact ⟨this.1, fun _ => this.2⟩
  split
  · rename_i h1
    have := wd [110, 117, 108, 108] (by decide) 110 _ rfl h1
    exact ⟨this.1, fun _ => this.2⟩
  split
  · have := strM_bd b (i + 1) [] (by omega)
    show (strM b (i + 1) []).2.1 ≤ _ ∧ (_ → i < (strM b (i + 1) []).2.1)
    omega
  split
  · rename_i h1
    have h2 := numM_bd b i (by omega)
    refine ⟨h2.2, fun hok => ?_⟩
    exact numM_pos hok
  · exact ⟨by show i ≤ _; omega, fun h => by cases h⟩
def allF (b : List UInt8) : Nat → Nat → List Tk → List Tk × Nat × Bool
  | 0, i, acc => (acc, i, false)
  | f + 1, i, acc => if b.length ≤ i then (acc, i, true) else if (tokM b i).2.2 = true then allF b f (skipE b (tokM b i).2.1) (acc ++ [(tokM b i).1]) else (acc, (tokM b i).2.1, false)
def allM (b : List UInt8) (i : Nat) (acc : List Tk) : List Tk × Nat × Bool := allF b (b.length + 1 - i) i acc
def kT (keep : Bool) (l : List Tk) : List Tk := if keep = true then l else []
theorem kT_len (keep : Bool) (l : List Tk) : (kT keep l).length ≤ l.length := by cases keep <;> simp [kT]
theorem kT_add (keep : Bool) (l : List Tk) (t : Tk) : addT true keep (kT keep l) t = kT keep (l ++ [t]) := by cases keep <;> rfl
theorem allF_fuel (b : List UInt8) : ∀ (n m i : Nat) (acc : List Tk), i ≤ b.length → b.length < n + i → b.length < m + i → allF b n i acc = allF b m i acc := by
  intro n
  induction n with
  | zero => intro m i acc h h1; omega
  | succ n ih =>
    intro m i acc h h1 h2
    cases m with
    | zero => omega
    | succ m =>
      unfold allF
      by_cases c1 : b.length ≤ i
      · rw [if_pos c1, if_pos c1]
      rw [if_neg c1, if_neg c1]
      by_cases c2 : (tokM b i).2.2 = true
      · rw [if_pos c2, if_pos c2]
        obtain ⟨q1, q2⟩ := tokM_bd (b := b) (i := i) (by omega)
        have := q2 c2
        have := skipE_bd b (tokM b i).2.1 q1
        exact ih m _ _ (by omega) (by omega) (by omega)
      · rw [if_neg c2, if_neg c2]
theorem allM_end {b : List UInt8} {i : Nat} {acc : List Tk} (h : i = b.length) : allM b i acc = (acc, i, true) := by
  unfold allM
  rw [show b.length + 1 - i = 0 + 1 by omega]
  unfold allF
  rw [if_pos (by omega)]
theorem allM_step {b : List UInt8} {i : Nat} {acc : List Tk} (h : i < b.length) : allM b i acc = if (tokM b i).2.2 = true then allM b (skipE b (tokM b i).2.1) (acc ++ [(tokM b i).1]) else (acc, (tokM b i).2.1, false) := by
  unfold allM
  rw [show b.length + 1 - i = (b.length - i) + 1 by omega]
  conv => lhs; unfold allF
  rw [if_neg (by omega)]
  by_cases c2 : (tokM b i).2.2 = true
  · rw [if_pos c2, if_pos c2]
    obtain ⟨q1, q2⟩ := tokM_bd (b := b) (i := i) h
    have := q2 c2
    have := skipE_bd b (tokM b i).2.1 q1
    exact allF_fuel b _ _ _ _ (by omega) (by omega) (by omega)
  · rw [if_neg c2, if_neg c2]
set_option maxRecDepth 100000 in
set_option maxHeartbeats 4000000 in
theorem all_any (g : Nat) (vb : Value) (b : List UInt8) (keep : Bool) (vt : Value) (B : Nat) (w : World) (hs : Scan w g vb 0 keep 0 vt) (ht : TextB w B vb b) (ho : OwnT w B vt []) (hB : B ≤ g) :
    Calls Try.prog 17 #[.pointer (some ⟨g, 0, none⟩)] w fun e w' => e = .returned (.bool (allM b (skipE b 0) []).2.2) ∧ ∃ vt', Scan w' g vb (allM b (skipE b 0) []).2.1 keep ((allM b (skipE b 0) []).1.length : Nat) vt' ∧ OwnT w' B vt' (kT keep (allM b (skipE b 0) []).1) ∧ Below B w w' := by
  have hm := ht.le
  have hlt := Box.lt hs
  have hne := ho.ne hs
  have HT := Lib.hid ht
  have HSK := Lib.hid (skip_any g vb b 0 keep 0 vt w hs (ht.at hB) (by omega))
  have HO := Lib.hid ho
  have HBG := Lib.hid (fun (wr : World) (hg : w.grownBy wr (some g)) => (below_grown hg (by omega) (fun k hk => by injection hk with hk; omega) : Below B w wr))
  obtain ⟨R, hR⟩ : ∃ R, allM b (skipE b 0) [] = R := ⟨_, rfl⟩
  have HR := Lib.hid hR
  rw [hR]
  have hsb := skipE_bd b 0 (by omega)
  clear hs ht ho hR
  go_enter Try.func17, Try.ntmps17
  go_wp2_with fail
  refine HSK.out.mono ?_
  rintro e x0 ⟨rfl, hs0, hg0⟩
  have HS0 := Lib.hid hs0
  have HG0 := Lib.hid hg0
  clear hs0 hg0
  go_wp2_with fail
  go_loopw [] (fun wr => ∃ (i : Nat) (acc : List Tk) (vt' : Value), i ≤ b.length ∧ acc.length ≤ i ∧ Hid (R = allM b i acc) ∧ Scan wr g vb i keep (acc.length : Nat) vt' ∧ OwnT wr B vt' (kT keep acc) ∧ Below B w wr) (fun wr => leftOf g (b.length + 1) wr)
  case atStart => exact ⟨skipE b 0, [], vt, hsb.2, by simp, Lib.hid HR.out.symm, HS0.out, by cases keep <;> exact HO.out.kept HG0.out (.inr hne), HBG.out _ HG0.out⟩
  case round =>
    obtain ⟨i, acc, vt', hi, hal, HE, hs, hot, hbw⟩ := hrel
    have HSr := Lib.hid hs
    have HOr := Lib.hid hot
    have HBr := Lib.hid hbw
    have HTr := Lib.hid (HT.out.below hbw)
    have d0 : wr.cell? ⟨g, 0, none⟩ = some vb := by rw [Box.cell hs]; rfl
    have d1 : wr.cell? ⟨g, 1, none⟩ = some (.int .i64 i) := hs.c1
    clear hs hot hbw
    obtain ⟨a, cap, e, h1, h2, -, h4⟩ := HTr.out.is
    subst e
    clear h4
    by_cases hlt2 : i < b.length
    · have hltI : (i : Int) < (b.length : Int) := by omega
      have HTK := Lib.hid (fun k => token_any g _ b i keep (acc.length : Nat) vt' (kT keep acc) B (wr.drewN k) (Box.drew HSr.out k) ⟨HTr.out.is, HTr.out.lt, HTr.out.le⟩ HOr.out hB (by omega) (by omega) (by have := kT_len keep acc; omega) hlt2)
      obtain ⟨q1, q2⟩ := tokM_bd (b := b) (i := i) hlt2
      have HST := Lib.hid (HE.out.trans (allM_step hlt2))
      obtain ⟨T, hT⟩ : ∃ T, tokM b i = T := ⟨_, rfl⟩
      rw [hT] at HTK HST q1 q2
      clear hT
      obtain ⟨t, p, ok⟩ := T
      have q1 : p ≤ b.length := q1
      have q2 : ok = true → i < p := q2
      have HX2 : Hid (∀ k, Calls Try.prog 26 #[.pointer (some ⟨g, 0, none⟩)] (wr.drewN k) fun e w' => e = .returned (.bool ok) ∧ Behind (wr.drewN k) w' g B (.slice a b.length cap) keep (acc.length : Nat) (kT keep acc) t p ok) := Lib.hid HTK.out
      have HST2 : Hid (R = if ok = true then allM b (skipE b p) (acc ++ [t]) else (acc, p, false)) := Lib.hid HST.out
      clear HTK HST
      go_wp2_with fail
      go_quiet (fail)
      go_wp2_with fail
      refine (HX2.out _).mono ?_
      rintro e x1 ⟨rfl, v1, hs1, ho1, hb1⟩
      have HB1 := Lib.hid ((below_dr HBr.out _).trans hb1)
      have HS1 := Lib.hid hs1
      have HO1 := Lib.hid ho1
      clear hs1 ho1 hb1
      cases ok with
      | false =>
        have HF : Hid (R = (acc, p, false)) := Lib.hid HST2.out
        go_wp2_with fail
        go_ret
        refine ⟨ret_b (by rw [HF.out]), v1, ?_, ?_, HB1.out⟩
        · rw [HF.out]; exact HS1.out
        · rw [HF.out]; exact HO1.out
      | true =>
        have HF : Hid (R = allM b (skipE b p) (acc ++ [t])) := Lib.hid HST2.out
        have q3 := q2 rfl
        have hsp := skipE_bd b p q1
        have HT1 := Lib.hid (HT.out.below HB1.out)
        have hlt1 := Box.lt HS1.out
        go_wp2_with fail
        refine (skip_any g _ b p keep (addN true (acc.length : Nat)) v1 x1 HS1.out (HT1.out.at hB) q1).mono ?_
        rintro e x2 ⟨rfl, hs2, hg2⟩
        have HS2 := Lib.hid hs2
        have HO2 := Lib.hid (HO1.out.kept hg2 (.inr (HO1.out.ne HS1.out)))
        have HB2 := Lib.hid (HB1.out.grown hg2 (by omega) (fun k hk => by injection hk with hk; omega))
        clear hs2 hg2
        go_wp2_with fail
        have HS3 : Hid (Scan x2 g (.slice a b.length cap) (skipE b p) keep ((acc ++ [t]).length : Nat) v1) := Lib.hid (by
          have h := HS2.out
          have e1 : addN true (acc.length : Nat) = (((acc ++ [t]).length : Nat) : Int) := by simp [addN]
          rw [e1] at h
          exact h)
        exact ⟨⟨skipE b p, acc ++ [t], v1, hsp.2, by simp; omega, HF, HS3.out, by rw [← kT_add]; exact HO2.out, HB2.out⟩, by rw [leftOf_eq HS3.out, leftOf_eq HSr.out]; omega⟩
    · obtain rfl : i = b.length := by omega
      have HF : Hid (R = (acc, b.length, true)) := Lib.hid (by rw [HE.out, allM_end rfl])
      go_wp2_with fail
      go_quiet (fail)
      go_wp2_with fail
      go_ret
      refine ⟨ret_b (by rw [HF.out]), vt', ?_, ?_, below_dr HBr.out _⟩
      · rw [HF.out]; exact Box.drew HSr.out _
      · rw [HF.out]; exact HOr.out
section
def faultN (b : List UInt8) (p : Nat) : Int := if p < b.length ∧ (nextL (b.drop p)).2.2 = false then 3 else 4
def toksM (b : List UInt8) : List Tk × Nat × Int :=
  if (allM b (skipE b 0) []).2.2 = true then ((allM b (skipE b 0) []).1, b.length, 0) else ([], (allM b (skipE b 0) []).2.1, faultN b (allM b (skipE b 0) []).2.1)
theorem allF_bd (b : List UInt8) : ∀ (n i : Nat) (acc : List Tk), i ≤ b.length → acc.length ≤ i → (allF b n i acc).2.1 ≤ b.length ∧ (allF b n i acc).1.length ≤ b.length := by
  intro n
  induction n with
  | zero => intro i acc h h2; exact ⟨h, by show acc.length ≤ _; omega⟩
  | succ n ih =>
    intro i acc h h2
    unfold allF
    split
    · exact ⟨h, by show acc.length ≤ _; omega⟩
    rename_i c1
    obtain ⟨q1, q2⟩ := tokM_bd (b := b) (i := i) (by omega)
    split
    · rename_i c2
      have := q2 c2
      have := skipE_bd b (tokM b i).2.1 q1
      exact ih _ _ (by omega) (by simp; omega)
    · exact ⟨q1, by show acc.length ≤ _; omega⟩
theorem allM_bd (b : List UInt8) : (allM b (skipE b 0) []).2.1 ≤ b.length ∧ (allM b (skipE b 0) []).1.length ≤ b.length :=
  allF_bd b _ _ _ (skipE_bd b 0 (by omega)).2 (by simp)
set_option maxHeartbeats 2000000 in
theorem fault_any (vb : Value) (b : List UInt8) (p : Nat) (w : World) (hv : Is8 w vb b) (hm : b.length ≤ 1000000) (hp : p ≤ b.length) :
    Calls Try.prog 18 #[vb, .int .i64 p] w fun e w' => e = .returned (.int .i64 (faultN b p)) ∧ ∃ n, w' = w.drewN n := by
  have HV := Lib.hid hv
  obtain ⟨a, cap, e, h1, h2, -, h4⟩ := HV.out
  subst e
  have hmaxc := h2
  unfold maxLen at h2
  by_cases hlt : p < b.length
  · obtain ⟨bb, off, rfl, hc⟩ := h4 (by omega)
    have hltI : (p : Int) < (b.length : Int) := by omega
    have H8 : Hid (Is8 w (.slice (some ⟨bb, off + p, none⟩) (b.length - p) (cap - p)) (b.drop p)) := Lib.hid (Is8.dropAt hc p hlt h1 hmaxc)
    have HNX := Lib.hid (next_any _ (b.drop p) w H8.out (by simp; omega))
    have HF : Hid (faultN b p = if (nextL (b.drop p)).2.2 = false then 3 else 4) := Lib.hid (by unfold faultN; simp [hlt])
    obtain ⟨R, hR⟩ : ∃ R, nextL (b.drop p) = R := ⟨_, rfl⟩
    rw [hR] at HNX HF
    clear hR hc h4
    obtain ⟨r, m, ok⟩ := R
    have q1 : ¬ cap - p = 0 := by omega
    have q2 : ¬ cap ≤ p := by omega
    have HX2 : Hid (Calls Try.prog 27 #[.slice (some ⟨bb, off + p, none⟩) (b.length - p) (cap - p)] w fun e w' => e = .returned (.tuple #[.int .i32 r, .int .i64 (m : Nat), .bool ok]) ∧ ∃ n, w' = w.drewN n) := Lib.hid HNX.out
    have HF2 : Hid (faultN b p = if ok = false then 3 else 4) := Lib.hid HF.out
    clear HNX HF
    cases ok with
    | false =>
      go_enter Try.func18, Try.ntmps18
      go_wp2_with fail
      refine HX2.out.mono ?_
      rintro e w' ⟨rfl, k, rfl⟩
      go_wp2_with fail
      go_ret
      exact ⟨ret_n HF2.out.symm, _, rfl⟩
    | true =>
      go_enter Try.func18, Try.ntmps18
      go_wp2_with fail
      refine HX2.out.mono ?_
      rintro e w' ⟨rfl, k, rfl⟩
      go_wp2_with fail
      go_ret
      exact ⟨ret_n HF2.out.symm, _, rfl⟩
  · have HF : Hid (faultN b p = 4) := Lib.hid (by unfold faultN; simp [hlt])
    have hltI : (b.length : Int) ≤ (p : Int) := by omega
    clear h4
    go_enter Try.func18, Try.ntmps18
    go_wp2_with fail
    go_ret
    exact ⟨ret_n HF.out.symm, 0, rfl⟩
section
variable {ops : Array Oper} {rest : List Oper} {o : Oper} {a : Act} {Q : Exit → Act → World → Prop}
theorem wpList_makeT (w : World) (hw : Region.wanted o (yielded ops a.tmps) = true) (l c : Operand) (hop : o.op = Op.makeSlice 35 l c)
    (B : Nat) (kl kc : IntKind) (C : Int) (n : Nat) (hl : a.eval l = .int kl 0) (hc : a.eval c = .int kc C) (hC : C = (n : Int)) (hn : n ≤ 1000000) (hB : B ≤ w.heap.size)
    (h : ∀ w', OwnT w' B (.slice (some ⟨w.heap.size, 0, none⟩) 0 n) [] → w.grownBy w' none → wpList Try.prog ops Q rest (a.put o.dst (.slice (some ⟨w.heap.size, 0, none⟩) 0 n)) w') : wpList Try.prog ops Q (o :: rest) a w := by
  obtain ⟨i, hi, hz, hs1, hby⟩ := okT
  refine wpList_met hw fun K hK' => ?_
  obtain ⟨w', hrun, r1, r2⟩ := run_make_own (P := Try.prog) w B 35 40 i _ 3 Try.underlying35 hi hz hs1 kl kc n (by rw [hby]; omega) (by unfold maxLen; omega) hB
  subst hC
  unfold Oper.wp
  simp [execOp, hop, hl, hc, hrun, Result.andThen]
  exact hK' _ _ (h w' r1 r2)
end
theorem tup3T {v : Value} {p p' c c' : Int} (h1 : p = p') (h2 : c = c') : Ending.returned (.tuple #[v, .int .i64 p, .int .i64 c]) = .returned (.tuple #[v, .int .i64 p', .int .i64 c']) := by rw [h1, h2]
set_option maxRecDepth 100000 in
set_option maxHeartbeats 4000000 in
theorem Tokens_any (vb : Value) (b : List UInt8) (w : World) (hv : Is8 w vb b) (hm : b.length ≤ 1000000) :
    Calls Try.prog 11 #[vb] w fun e w' => ∃ vt, e = .returned (.tuple #[vt, .int .i64 (toksM b).2.1, .int .i64 (toksM b).2.2]) ∧ OwnT w' w.heap.size vt (toksM b).1 ∧ Below w.heap.size w w' := by
  have HV := Lib.hid hv
  have HTB : Hid (TextB w w.heap.size vb b) := Lib.hid ⟨hv, fun hn bb off l c e => by
    obtain ⟨a, cap, e2, h1, h2, h3, h4⟩ := hv
    obtain ⟨bb2, off2, e3, hc⟩ := h4 hn
    subst e2
    injection e with e4
    rw [e3] at e4
    injection e4 with e5
    injection e5 with e6
    have := hc.lt hn
    omega, hm⟩
  have HA := Lib.hid (fun (W : World) (g : Nat) (keep : Bool) vt (h : Scan W g vb 0 keep 0 vt) (ht : TextB W w.heap.size vb b) (ho : OwnT W w.heap.size vt []) (hg : w.heap.size ≤ g) => all_any g vb b keep vt w.heap.size W h ht ho hg)
  have HTM : Hid (toksM b = if (allM b (skipE b 0) []).2.2 = true then ((allM b (skipE b 0) []).1, b.length, 0) else ([], (allM b (skipE b 0) []).2.1, faultN b (allM b (skipE b 0) []).2.1)) := Lib.hid rfl
  obtain ⟨R, hR⟩ : ∃ R, allM b (skipE b 0) [] = R := ⟨_, rfl⟩
  have HRB : Hid (R.2.1 ≤ b.length ∧ R.1.length ≤ b.length) := Lib.hid (by rw [← hR]; exact allM_bd b)
  rw [hR] at HA HTM
  clear hR hv
  obtain ⟨acc, p, ok⟩ := R
  have hpb : p ≤ b.length := HRB.out.1
  have hab : acc.length ≤ b.length := HRB.out.2
  have HA2 : Hid (∀ (W : World) (g : Nat) (keep : Bool) vt, Scan W g vb 0 keep 0 vt → TextB W w.heap.size vb b → OwnT W w.heap.size vt [] → w.heap.size ≤ g → Calls Try.prog 17 #[.pointer (some ⟨g, 0, none⟩)] W fun e w' => e = .returned (.bool ok) ∧ ∃ vt', Scan w' g vb p keep (acc.length : Nat) vt' ∧ OwnT w' w.heap.size vt' (kT keep acc) ∧ Below w.heap.size W w') := Lib.hid HA.out
  have HTM2 : Hid (toksM b = if ok = true then (acc, b.length, 0) else ([], p, faultN b p)) := Lib.hid HTM.out
  clear HA HTM HRB
  obtain ⟨sa, scap, e, -, -, -, -⟩ := HV.out
  subst e
  cases ok with
  | false =>
    have HF : Hid (toksM b = ([], p, faultN b p)) := Lib.hid HTM2.out
    go_enter Try.func11, Try.ntmps11
    go_wp2_with fail
    refine (HA2.out _ _ false (.slice none 0 0) (Box.new w 48 _) (HTB.out.below (ext_alloc w _)) (OwnT.nil _ _) (Nat.le_refl _)).mono ?_
    rintro e x1 ⟨rfl, v1, hs1, ho1, hb1⟩
    have HB1 := Lib.hid ((ext_alloc w _).trans hb1)
    have HT1 := Lib.hid (HTB.out.below HB1.out)
    have d1 : x1.cell? ⟨w.heap.size, 1, none⟩ = some (.int .i64 p) := hs1.c1
    have HFQ := Lib.hid (fun n => fault_any (.slice sa b.length scap) b p (x1.drewN n) HT1.out.is hm hpb)
    clear hs1 ho1 hb1
    go_wp2_with fail
    go_quiet ((go_at_call 18; exact Calls.quiet_of (HFQ.out _)))
    go_wp2_with fail
    go_ret3
    refine ⟨.slice none 0 0, tup3T (by rw [HF.out]) (by rw [HF.out]), by rw [HF.out]; exact OwnT.nil _ _, below_dr HB1.out _⟩
  | true =>
    have HF : Hid (toksM b = (acc, b.length, 0)) := Lib.hid HTM2.out
    go_enter Try.func11, Try.ntmps11
    go_wp2_with fail
    refine (HA2.out _ _ false (.slice none 0 0) (Box.new w 48 _) (HTB.out.below (ext_alloc w _)) (OwnT.nil _ _) (Nat.le_refl _)).mono ?_
    rintro e x1 ⟨rfl, v1, hs1, ho1, hb1⟩
    have HB1 := Lib.hid ((ext_alloc w _).trans hb1)
    have HT1 := Lib.hid (HTB.out.below HB1.out)
    have d3 : x1.cell? ⟨w.heap.size, 3, none⟩ = some (.int .i64 (acc.length : Nat)) := by rw [Box.cell hs1]; rfl
    have hsz1 := HB1.out.size
    clear hs1 ho1 hb1
    go_wp2_with (at_make; refine wpList_makeT _ rfl _ _ rfl w.heap.size _ _ _ acc.length rfl rfl rfl (by omega) (by omega) ?_)
    intro x2 hown2 hgr2
    have HO2 := Lib.hid hown2
    have HB2 := Lib.hid (HB1.out.grown hgr2 (by omega) (fun k hk => by cases hk))
    have HT2 := Lib.hid (HTB.out.below HB2.out)
    have hsz2 := HB2.out.size
    clear hown2 hgr2
    go_wp2_with fail
    refine (HA2.out _ _ true _ (Box.new x2 48 _) (HT2.out.below ((Below.refl _ x2).alloc hsz2 _)) (OwnT.below HO2.out (ext_alloc x2 _)) hsz2).mono ?_
    rintro e x3 ⟨rfl, v3, hs3, ho3, hb3⟩
    have HB3 := Lib.hid ((HB2.out.alloc hsz2 _).trans hb3)
    have HO3 := Lib.hid ho3
    have d4 : x3.cell? ⟨x2.heap.size, 4, none⟩ = some v3 := by rw [Box.cell hs3]; rfl
    obtain ⟨va, vc, e4⟩ := ho3.slice
    clear hs3 ho3 hb3
    go_wp2_with fail
    go_ret3
    have h := HO3.out
    rw [e4] at h
    exact ⟨_, tup3T (by rw [HF.out]) (by rw [HF.out]), by rw [HF.out]; exact h, HB3.out⟩
end
def Scn (w : World) (g : Nat) (vb : Value) (i : Nat) (bad : Bool) : Prop := Box w g 55 [vb, .int .i64 i, .bool bad]
theorem Scn.c0 {w : World} {g : Nat} {vb : Value} {i : Nat} {bad : Bool} (h : Scn w g vb i bad) : w.cell? ⟨g, 0, none⟩ = some vb := by rw [Box.cell h]; rfl
theorem Scn.c1 {w : World} {g : Nat} {vb : Value} {i : Nat} {bad : Bool} (h : Scn w g vb i bad) : w.cell? ⟨g, 1, none⟩ = some (.int .i64 i) := by rw [Box.cell h]; rfl
theorem Scn.c2 {w : World} {g : Nat} {vb : Value} {i : Nat} {bad : Bool} (h : Scn w g vb i bad) : w.cell? ⟨g, 2, none⟩ = some (.bool bad) := by rw [Box.cell h]; rfl
theorem Scn.to {w : World} {g : Nat} {vb : Value} {i : Nat} {bad : Bool} (h : Scn w g vb i bad) (k j : Nat) (x : Int) (hx : x = (j : Int)) : Scn ((w.drewN k).setCell ⟨g, 1, none⟩ (.int .i64 x)) g vb j bad := by
  subst hx
  exact Box.set (Box.drew h k) 1 (by simp) _
theorem Scn.bad {w : World} {g : Nat} {vb : Value} {i : Nat} {bad : Bool} (h : Scn w g vb i bad) (k : Nat) : Scn ((w.drewN k).setCell ⟨g, 2, none⟩ (.bool true)) g vb i true := Box.set (Box.drew h k) 2 (by simp) _
def memB (c : Int) (l : List UInt8) : Bool := l.any fun x => (x.toNat : Int) == c
theorem memB_step {c : Int} {l : List UInt8} {j : Nat} (h : j < l.length) : memB c (l.drop j) = ((byt l j == c) || memB c (l.drop (j + 1))) := by
  rw [List.drop_eq_getElem_cons h]
  have e : byt l j = ((l[j]).toNat : Int) := by unfold byt; simp [List.getD, h]
  rw [e]; rfl
def isB (b : List UInt8) (bad : Bool) (i : Nat) (l : List UInt8) : Bool := !bad && (decide (i < b.length) && memB (byt b i) l)
theorem isB_lt {b : List UInt8} {bad : Bool} {i : Nat} {l : List UInt8} (h : isB b bad i l = true) : i < b.length := by
  unfold isB at h; simp at h; exact h.2.1
set_option maxRecDepth 100000 in
set_option maxHeartbeats 4000000 in
theorem is_any (g : Nat) (vb : Value) (b : List UInt8) (i : Nat) (bad : Bool) (l : List UInt8) (w : World) (hs : Scn w g vb i bad) (ht : Text w g vb b) (hl : l.length ≤ 1000) (hi : i ≤ 2000000) :
    Calls Try.prog 33 #[.pointer (some ⟨g, 0, none⟩), .string ⟨l.toArray⟩] w fun e w' => e = .returned (.bool (isB b bad i l)) ∧ ∃ n, w' = w.drewN n := by
  have hm := ht.le
  have d0 := hs.c0
  have d1 := hs.c1
  have d2 := hs.c2
  have HT := Lib.hid ht
  clear hs ht
  obtain ⟨a, cap, e, h1, h2, -, h4⟩ := HT.out.is
  subst e
  unfold maxLen at h2
  cases bad with
  | true =>
    clear h4
    go_enter Try.func33, Try.ntmps33
    go_wp2_with fail
    go_quiet (fail)
    go_wp2_with fail
    go_ret
    exact ⟨rfl, _, rfl⟩
  | false =>
    by_cases hlt : i < b.length
    · obtain ⟨bb, off, rfl, hc⟩ := h4 (by omega)
      have hcell : w.cell? ⟨bb, off + i, none⟩ = some (.int .u8 (byt b i)) := hc.at i hlt
      have hltI : (i : Int) < (b.length : Int) := by omega
      have hgd : decide ((b.length : Int) ≤ (i : Int)) = false := by simp; omega
      have HI : Hid (isB b false i l = memB (byt b i) l) := Lib.hid (by unfold isB; simp [hlt])
      obtain ⟨c, hcc⟩ : ∃ c, byt b i = c := ⟨_, rfl⟩
      rw [hcc] at hcell HI
      clear hcc hc h4
      have HMS := Lib.hid (fun j (h : j < l.length) => memB_step (c := c) h)
      go_enter Try.func33, Try.ntmps33
      go_wp2_with fail
      go_quiet (fail)
      go_wp2_with fail
      go_loopw [5] (fun tj wr => ∃ j : Nat, j ≤ l.length ∧ tj = .int .i64 j ∧ Hid (memB c l = memB c (l.drop j)) ∧ ∃ m, wr = w.drewN m) (fun tj _ => l.length - (intOf tj).toNat)
      case atStart => exact ⟨0, Nat.zero_le _, rfl, Lib.hid rfl, _, rfl⟩
      case round =>
        obtain ⟨j, hj, rfl, HE, m, rfl⟩ := hrel
        by_cases hlt2 : j < l.length
        · have hlt2I : (j : Int) < (l.length : Int) := by omega
          have HST := Lib.hid (HE.out.trans (HMS.out j hlt2))
          by_cases hq : c = byt l j
          · have g1 : (c == byt l j) = true := by simpa using hq
            have HF : Hid (isB b false i l = true) := Lib.hid (by rw [HI.out, HST.out, hq]; simp)
            clear hq
            go_wp2_with fail
            go_quiet (fail)
            go_wp2_with fail
            go_ret
            exact ⟨ret_b HF.out.symm, _, by first | rfl | (rw [World.drewN_drewN])⟩
          · have g1 : (c == byt l j) = false := by simpa using hq
            have HF : Hid (memB c l = memB c (l.drop (j + 1))) := Lib.hid (by
              rw [HST.out]
              have : (byt l j == c) = false := by rw [beq_eq_false_iff_ne]; exact fun h => hq h.symm
              rw [this]; rfl)
            clear hq
            go_wp2_with fail
            go_quiet (fail)
            go_wp2_with fail
            exact ⟨⟨j + 1, by omega, by go_num, HF, _, by first | rfl | (rw [World.drewN_drewN])⟩, by simp [intOf]; omega⟩
        · have HF : Hid (isB b false i l = false) := Lib.hid (by rw [HI.out, HE.out, List.drop_of_length_le (by omega)]; rfl)
          have hlt2I : (l.length : Int) ≤ (j : Int) := by omega
          go_wp2_with fail
          go_ret
          exact ⟨ret_b HF.out.symm, _, rfl⟩
    · have HI : Hid (isB b false i l = false) := Lib.hid (by unfold isB; simp; omega)
      have hgd : decide ((b.length : Int) ≤ (i : Int)) = true := by simp; omega
      clear h4
      go_enter Try.func33, Try.ntmps33
      go_wp2_with fail
      go_quiet (fail)
      go_wp2_with fail
      go_ret
      exact ⟨ret_b HI.out.symm, _, rfl⟩
def stepI (t : Bool) (i : Nat) : Nat := if t = true then i + 1 else i
set_option maxHeartbeats 4000000 in
theorem take_any (g : Nat) (vb : Value) (b : List UInt8) (i : Nat) (bad : Bool) (l : List UInt8) (w : World) (hs : Scn w g vb i bad) (ht : Text w g vb b) (hl : l.length ≤ 1000) (hi : i ≤ 2000000) :
    Calls Try.prog 22 #[.pointer (some ⟨g, 0, none⟩), .string ⟨l.toArray⟩] w fun e w' => e = .returned (.bool (isB b bad i l)) ∧ Scn w' g vb (stepI (isB b bad i l) i) bad ∧ w.grownBy w' (some g) := by
  have HS := Lib.hid hs
  have HI := Lib.hid (is_any g vb b i bad l w hs ht hl hi)
  have d1 := hs.c1
  have fz : w.frozen? ⟨g, 1, none⟩ = false := Box.frozen hs 1
  obtain ⟨t, htt⟩ : ∃ t, isB b bad i l = t := ⟨_, rfl⟩
  rw [htt] at HI
  rw [htt]
  clear hs ht htt
  cases t with
  | true =>
    go_enter Try.func22, Try.ntmps22
    go_wp2_with fail
    refine HI.out.mono ?_
    rintro e w' ⟨rfl, k, rfl⟩
    go_wp2_with fail
    go_ret
    exact ⟨rfl, HS.out.to _ (i + 1) _ (by omega), grown_to (grown_refl _ _) _ 1 _⟩
  | false =>
    go_enter Try.func22, Try.ntmps22
    go_wp2_with fail
    refine HI.out.mono ?_
    rintro e w' ⟨rfl, k, rfl⟩
    go_wp2_with fail
    go_ret
    exact ⟨rfl, Box.drew HS.out _, grownBy_drew _ _ _⟩
def digL : List UInt8 := [48, 49, 50, 51, 52, 53, 54, 55, 56, 57]
theorem memB_dig (c : Int) : memB c digL = digC c := by
  unfold memB digC digL
  rw [Bool.eq_iff_iff]
  simp
  omega
theorem isB_dig {b : List UInt8} {i : Nat} : isB b false i digL = digC (byt b i) := by
  unfold isB
  rw [memB_dig]
  cases h : digC (byt b i) with
  | true => have := digC_lt h; simp [this]
  | false => simp
theorem isB_bad (b : List UInt8) (i : Nat) (l : List UInt8) : isB b true i l = false := rfl
def dgS (b : List UInt8) (i : Nat) (bad : Bool) : Nat × Bool := if isB b bad i digL = true then (digE b (i + 1), bad) else (i, true)
set_option maxRecDepth 100000 in
set_option maxHeartbeats 4000000 in
theorem digits_any (g : Nat) (vb : Value) (b : List UInt8) (i : Nat) (bad : Bool) (w : World) (hs : Scn w g vb i bad) (ht : Text w g vb b) (hi : i ≤ b.length) :
    Calls Try.prog 45 #[.pointer (some ⟨g, 0, none⟩)] w fun e w' => e = .returned (.tuple #[]) ∧ Scn w' g vb (dgS b i bad).1 (dgS b i bad).2 ∧ w.grownBy w' (some g) := by
  have hm := ht.le
  have HT := Lib.hid ht
  have HS := Lib.hid hs
  have HTK := Lib.hid (take_any g vb b i bad digL w hs ht (by decide) (by omega))
  have HD : Hid (dgS b i bad = if isB b bad i digL = true then (digE b (i + 1), bad) else (i, true)) := Lib.hid rfl
  clear hs ht
  cases htb : isB b bad i digL with
  | false =>
    have HF : Hid (dgS b i bad = (i, true)) := Lib.hid (by rw [HD.out, htb]; rfl)
    rw [htb] at HTK
    clear htb HD
    go_enter Try.func45, Try.ntmps45
    go_wp2_with fail
    refine HTK.out.mono ?_
    rintro e x1 ⟨rfl, hs1, hg1⟩
    have HS1 := Lib.hid hs1
    have HG1 := Lib.hid hg1
    have e2 : x1.cell? ⟨g, 2, none⟩ = some (.bool bad) := Scn.c2 hs1
    have f2 : x1.frozen? ⟨g, 2, none⟩ = false := Box.frozen hs1 2
    clear hs1 hg1
    go_wp2_with fail
    go_loopw [] (fun wr => Scn wr g vb i true ∧ w.grownBy wr (some g)) (fun wr => 0)
    case atStart => exact ⟨Scn.bad HS1.out 0, grown_to HG1.out 0 2 _⟩
    case round =>
      obtain ⟨hsr, hgr⟩ := hrel
      have HSR := Lib.hid hsr
      have HGR := Lib.hid hgr
      have HTK2 := Lib.hid (take_any g vb b i true digL wr hsr (HT.out.grown hgr) (by decide) (by omega))
      rw [isB_bad] at HTK2
      clear hsr hgr
      go_wp2_with fail
      refine HTK2.out.mono ?_
      rintro e x2 ⟨rfl, hs2, hg2⟩
      have HS2 := Lib.hid hs2
      have HG2 := Lib.hid (grownBy_trans HGR.out hg2)
      clear hs2 hg2
      go_wp2_with fail
      go_end0
      exact ⟨rfl, by rw [HF.out]; exact HS2.out, HG2.out⟩
  | true =>
    have hlt := isB_lt htb
    have hbad : bad = false := by cases bad with
      | false => rfl
      | true => cases htb
    subst hbad
    have HF : Hid (dgS b i false = (digE b (i + 1), false)) := Lib.hid (by rw [HD.out, htb]; rfl)
    rw [htb] at HTK
    clear htb HD
    go_enter Try.func45, Try.ntmps45
    go_wp2_with fail
    refine HTK.out.mono ?_
    rintro e x1 ⟨rfl, hs1, hg1⟩
    have HS1 := Lib.hid hs1
    have HG1 := Lib.hid hg1
    clear hs1 hg1
    go_wp2_with fail
    go_loopw [] (fun wr => ∃ j, j ≤ b.length ∧ Hid (digE b (i + 1) = digE b j) ∧ Scn wr g vb j false ∧ w.grownBy wr (some g)) (fun wr => leftOf g (b.length + 1) wr)
    case atStart => exact ⟨i + 1, by omega, Lib.hid rfl, HS1.out, HG1.out⟩
    case round =>
      obtain ⟨j, hj, HE, hsr, hgr⟩ := hrel
      have HSR := Lib.hid hsr
      have HGR := Lib.hid hgr
      have HTK2 := Lib.hid (take_any g vb b j false digL wr hsr (HT.out.grown hgr) (by decide) (by omega))
      rw [isB_dig] at HTK2
      have HLJ : Hid (leftOf g (b.length + 1) wr = b.length + 1 - j) := Lib.hid (by unfold leftOf; rw [Scn.c1 hsr]; simp)
      clear hsr hgr
      cases hd : digC (byt b j) with
      | true =>
        have hl := digC_lt hd
        have H2 := Lib.hid (HE.out.trans (digE_on hd))
        rw [hd] at HTK2
        clear hd
        go_wp2_with fail
        refine HTK2.out.mono ?_
        rintro e x2 ⟨rfl, hs2, hg2⟩
        have HS2 := Lib.hid hs2
        have HG2 := Lib.hid (grownBy_trans HGR.out hg2)
        clear hs2 hg2
        go_wp2_with fail
        exact ⟨⟨j + 1, by omega, H2, HS2.out, HG2.out⟩, by rw [HLJ.out, show leftOf g (b.length + 1) x2 = b.length + 1 - (j + 1) by unfold leftOf; rw [Scn.c1 HS2.out]; simp [stepI]]; omega⟩
      | false =>
        have H2 := Lib.hid (HE.out.trans (digE_off hd))
        rw [hd] at HTK2
        clear hd
        go_wp2_with fail
        refine HTK2.out.mono ?_
        rintro e x2 ⟨rfl, hs2, hg2⟩
        have HS2 := Lib.hid hs2
        have HG2 := Lib.hid (grownBy_trans HGR.out hg2)
        clear hs2 hg2
        go_wp2_with fail
        go_end0
        exact ⟨rfl, by rw [HF.out, H2.out]; exact HS2.out, HG2.out⟩
theorem digits_bd (b : List UInt8) (i : Nat) (bad : Bool) (h : i ≤ b.length) : i ≤ (dgS b i bad).1 ∧ (dgS b i bad).1 ≤ b.length := by
  unfold dgS
  split
  · rename_i h1
    have := isB_lt h1
    have := digE_bd b (i + 1) (by omega)
    show i ≤ digE b (i + 1) ∧ _; omega
  · exact ⟨Nat.le_refl _, h⟩
theorem step_bd (b : List UInt8) (i : Nat) (bad : Bool) (l : List UInt8) (h : i ≤ b.length) : i ≤ stepI (isB b bad i l) i ∧ stepI (isB b bad i l) i ≤ b.length := by
  unfold stepI
  split
  · rename_i h1
    have := isB_lt h1; omega
  · exact ⟨Nat.le_refl _, h⟩
def nr1 (b : List UInt8) (i : Nat) : Nat := stepI (isB b false i [45]) i
def nr2 (b : List UInt8) (i : Nat) : Nat × Bool := if isB b false (nr1 b i) [48] = true then (nr1 b i + 1, false) else dgS b (nr1 b i) false
def nr3 (b : List UInt8) (s : Nat × Bool) : Nat × Bool := if isB b s.2 s.1 [46] = true then dgS b (s.1 + 1) s.2 else s
def nr4 (b : List UInt8) (s : Nat × Bool) : Nat × Bool := if isB b s.2 s.1 [101, 69] = true then dgS b (stepI (isB b s.2 (s.1 + 1) [43, 45]) (s.1 + 1)) s.2 else s
def numR (b : List UInt8) (i : Nat) : Nat × Bool := nr4 b (nr3 b (nr2 b i))
theorem isB_one {b : List UInt8} {i : Nat} {c : UInt8} (hc : (c.toNat : Int) ≠ 0) : isB b false i [c] = (byt b i == (c.toNat : Int)) := by
  unfold isB memB
  rw [Bool.eq_iff_iff]
  simp
  constructor
  · rintro ⟨_, h⟩; exact h.symm
  · intro h; exact ⟨byt_lt h hc, h.symm⟩
theorem isB_two {b : List UInt8} {i : Nat} {c d : UInt8} (hc : (c.toNat : Int) ≠ 0) (hd : (d.toNat : Int) ≠ 0) : isB b false i [c, d] = ((byt b i == (c.toNat : Int)) || (byt b i == (d.toNat : Int))) := by
  unfold isB memB
  rw [Bool.eq_iff_iff]
  simp
  constructor
  · rintro ⟨_, h | h⟩
    · exact .inl h.symm
    · exact .inr h.symm
  · rintro (h | h)
    · exact ⟨byt_lt h hc, .inl h.symm⟩
    · exact ⟨byt_lt h hd, .inr h.symm⟩
theorem nr4_eq (b : List UInt8) (i : Nat) : nr4 b (i, false) = ((expM b i).1, !(expM b i).2) := by
  show (if isB b false i [101, 69] = true then dgS b (stepI (isB b false (i + 1) [43, 45]) (i + 1)) false else (i, false)) = _
  rw [isB_two (by decide) (by decide), isB_two (by decide) (by decide)]
  unfold expM
  by_cases h1 : byt b i = 101 ∨ byt b i = 69
  · rw [if_pos h1, if_pos (by simpa using h1)]
    have hs : stepI ((byt b (i + 1) == ((43 : UInt8).toNat : Int)) || (byt b (i + 1) == ((45 : UInt8).toNat : Int))) (i + 1) = (if byt b (i + 1) = 43 ∨ byt b (i + 1) = 45 then i + 2 else i + 1) := by
      unfold stepI
      by_cases h2 : byt b (i + 1) = 43 ∨ byt b (i + 1) = 45
      · rw [if_pos h2, if_pos (by simpa using h2)]
      · rw [if_neg h2, if_neg (by simpa using h2)]
    rw [hs]
    generalize (if byt b (i + 1) = 43 ∨ byt b (i + 1) = 45 then i + 2 else i + 1) = j
    unfold dgS
    rw [isB_dig]
    by_cases h3 : digC (byt b j) = true
    · rw [if_pos h3, if_pos h3, digE_on h3]; rfl
    · rw [if_neg h3, if_neg h3]; rfl
  · rw [if_neg h1, if_neg (by simpa using h1)]; rfl
theorem nr4_bad (b : List UInt8) (i : Nat) : nr4 b (i, true) = (i, true) := rfl
theorem nr3_eq (b : List UInt8) (i : Nat) : nr4 b (nr3 b (i, false)) = ((fracM b i).1, !(fracM b i).2) := by
  show nr4 b (if isB b false i [46] = true then dgS b (i + 1) false else (i, false)) = _
  rw [isB_one (by decide)]
  unfold fracM
  by_cases h1 : byt b i = 46
  · rw [if_pos h1, if_pos (by simpa using h1)]
    unfold dgS
    rw [isB_dig]
    by_cases h3 : digC (byt b (i + 1)) = true
    · rw [if_pos h3, if_pos h3, digE_on h3, nr4_eq]
    · rw [if_neg h3, if_neg h3, nr4_bad]; rfl
  · rw [if_neg h1, if_neg (by simpa using h1), nr4_eq]
theorem numR_eq (b : List UInt8) (i : Nat) : numR b i = ((numM b i).1, !(numM b i).2) := by
  unfold numR numM
  have h1 : nr1 b i = (if byt b i = 45 then i + 1 else i) := by
    unfold nr1 stepI
    rw [isB_one (by decide)]
    by_cases h : byt b i = 45
    · rw [if_pos h, if_pos (by simpa using h)]
    · rw [if_neg h, if_neg (by simpa using h)]
  unfold nr2
  rw [h1]
  generalize (if byt b i = 45 then i + 1 else i) = p
  unfold intM
  rw [isB_one (by decide)]
  by_cases h2 : byt b p = 48
  · rw [if_pos h2, if_pos (by simpa using h2), nr3_eq]
  · rw [if_neg h2, if_neg (by simpa using h2)]
    unfold dgS
    rw [isB_dig]
    by_cases h3 : digC (byt b p) = true
    · rw [if_pos h3, if_pos h3, ← digE_on h3, nr3_eq]
    · rw [if_neg h3, if_neg h3]; rfl
set_option maxRecDepth 100000 in
set_option maxHeartbeats 8000000 in
theorem rnum_any (g : Nat) (vb : Value) (b : List UInt8) (i : Nat) (w : World) (hs : Scn w g vb i false) (ht : Text w g vb b) (hi : i ≤ b.length) :
    Calls Try.prog 35 #[.pointer (some ⟨g, 0, none⟩)] w fun e w' => e = .returned (.tuple #[]) ∧ Scn w' g vb (numR b i).1 (numR b i).2 ∧ w.grownBy w' (some g) := by
  have hm := ht.le
  have HT := Lib.hid ht
  have HS := Lib.hid hs
  have HG := Lib.hid (grown_refl w (some g))
  obtain ⟨h1a, h1b⟩ := step_bd b i false [45] hi
  have HN : Hid (numR b i = nr4 b (nr3 b (if isB b false (stepI (isB b false i [45]) i) [48] = true then (stepI (isB b false i [45]) i + 1, false) else dgS b (stepI (isB b false i [45]) i) false))) := Lib.hid rfl
  clear hs ht
  go_enter Try.func35, Try.ntmps35
  go_wp2_with fail
  refine (take_any g vb b i false [45] _ HS.out (HT.out.grown HG.out) (by decide) (by omega)).mono ?_
  rintro e y1 ⟨rfl, hs1, hg1⟩
  have HS1 := Lib.hid hs1
  have HG1 := Lib.hid (grownBy_trans HG.out hg1)
  clear hs1 hg1
  obtain ⟨p, hp⟩ : ∃ p, stepI (isB b false i [45]) i = p := ⟨_, rfl⟩
  rw [hp] at HN h1a h1b HS1
  clear hp
  have HLT1 : Hid (isB b false p [48] = true → p < b.length) := Lib.hid isB_lt
  go_wp2_with fail
  refine (take_any g vb b p false [48] _ HS1.out (HT.out.grown HG1.out) (by decide) (by omega)).mono ?_
  rintro e y2 ⟨rfl, hs2, hg2⟩
  have HS2 := Lib.hid hs2
  have HG2 := Lib.hid (grownBy_trans HG1.out hg2)
  clear hs2 hg2
  obtain ⟨t1, ht1⟩ : ∃ t, isB b false p [48] = t := ⟨_, rfl⟩
  rw [ht1] at HN HLT1 HS2
  rw [ht1]
  clear ht1
  cases t1 with
  | true =>
    have hp1 := HLT1.out rfl
    obtain ⟨m, hme⟩ : ∃ m, p + 1 = m := ⟨_, rfl⟩
    obtain ⟨bd2, hbe⟩ : ∃ x, false = x := ⟨_, rfl⟩
    have H2 : Hid (numR b i = nr4 b (nr3 b (m, bd2))) := Lib.hid (by rw [HN.out, ← hme, ← hbe]; rfl)
    have HS2b : Hid (Scn _ g vb m bd2) := Lib.hid (by rw [← hme, ← hbe]; exact HS2.out)
    have hmm : m ≤ b.length := by omega
    clear hme hbe
    have H3 : Hid (nr3 b (m, bd2) = if isB b bd2 m [46] = true then dgS b (m + 1) bd2 else (m, bd2)) := Lib.hid rfl
    have HLT3 : Hid (isB b bd2 m [46] = true → m < b.length) := Lib.hid isB_lt
    go_wp2_with fail
    refine (take_any g vb b m bd2 [46] _ HS2b.out (HT.out.grown HG2.out) (by decide) (by omega)).mono ?_
    rintro e y4 ⟨rfl, hs4, hg4⟩
    have HS4 := Lib.hid hs4
    have HG4 := Lib.hid (grownBy_trans HG2.out hg4)
    clear hs4 hg4
    obtain ⟨t2, ht2⟩ : ∃ t, isB b bd2 m [46] = t := ⟨_, rfl⟩
    rw [ht2] at H3 HLT3 HS4
    rw [ht2]
    clear ht2
    cases t2 with
    | false =>
      obtain ⟨r, hre⟩ : ∃ r, m = r := ⟨_, rfl⟩
      obtain ⟨bd3, hbe⟩ : ∃ x, bd2 = x := ⟨_, rfl⟩
      have H3' : Hid (numR b i = nr4 b (r, bd3)) := Lib.hid (by rw [H2.out, H3.out, hre, hbe]; rfl)
      have HS4b : Hid (Scn _ g vb r bd3) := Lib.hid (by rw [← hre, ← hbe]; exact HS4.out)
      have hr : r ≤ b.length := by omega
      clear hre hbe
      have H4 : Hid (nr4 b (r, bd3) = if isB b bd3 r [101, 69] = true then dgS b (stepI (isB b bd3 (r + 1) [43, 45]) (r + 1)) bd3 else (r, bd3)) := Lib.hid rfl
      have HLT : Hid (isB b bd3 r [101, 69] = true → r < b.length) := Lib.hid isB_lt
      go_wp2_with fail
      refine (take_any g vb b r bd3 [101, 69] _ HS4b.out (HT.out.grown HG4.out) (by decide) (by omega)).mono ?_
      rintro e y6 ⟨rfl, hs6, hg6⟩
      have HS6 := Lib.hid hs6
      have HG6 := Lib.hid (grownBy_trans HG4.out hg6)
      clear hs6 hg6
      obtain ⟨t3, ht3⟩ : ∃ t, isB b bd3 r [101, 69] = t := ⟨_, rfl⟩
      rw [ht3] at H4 HLT HS6
      rw [ht3]
      clear ht3
      cases t3 with
      | false =>
        have HF : Hid (numR b i = (r, bd3)) := Lib.hid (H3'.out.trans H4.out)
        go_wp2_with fail
        go_end0
        exact ⟨rfl, by rw [HF.out]; exact HS6.out, HG6.out⟩
      | true =>
        have hr1 := HLT.out rfl
        have HF0 : Hid (numR b i = dgS b (stepI (isB b bd3 (r + 1) [43, 45]) (r + 1)) bd3) := Lib.hid (H3'.out.trans H4.out)
        obtain ⟨h5a, h5b⟩ := step_bd b (r + 1) bd3 [43, 45] (by omega)
        have HS6b : Hid (Scn _ g vb (r + 1) bd3) := HS6
        go_wp2_with fail
        refine (take_any g vb b (r + 1) bd3 [43, 45] _ HS6b.out (HT.out.grown HG6.out) (by decide) (by omega)).mono ?_
        rintro e y7 ⟨rfl, hs7, hg7⟩
        have HS7 := Lib.hid hs7
        have HG7 := Lib.hid (grownBy_trans HG6.out hg7)
        clear hs7 hg7
        obtain ⟨q, hq⟩ : ∃ q, stepI (isB b bd3 (r + 1) [43, 45]) (r + 1) = q := ⟨_, rfl⟩
        rw [hq] at HF0 h5a h5b HS7
        clear hq
        go_wp2_with fail
        refine (digits_any g vb b q bd3 _ HS7.out (HT.out.grown HG7.out) (by omega)).mono ?_
        rintro e y8 ⟨rfl, hs8, hg8⟩
        have HS8 := Lib.hid hs8
        have HG8 := Lib.hid (grownBy_trans HG7.out hg8)
        clear hs8 hg8
        go_wp2_with fail
        go_end0
        exact ⟨rfl, by rw [HF0.out]; exact HS8.out, HG8.out⟩
    | true =>
      have hm1 := HLT3.out rfl
      have HS4b : Hid (Scn _ g vb (m + 1) bd2) := HS4
      obtain ⟨h3a, h3b⟩ := digits_bd b (m + 1) bd2 (by omega)
      go_wp2_with fail
      refine (digits_any g vb b (m + 1) bd2 _ HS4b.out (HT.out.grown HG4.out) (by omega)).mono ?_
      rintro e y5 ⟨rfl, hs5, hg5⟩
      have HS5 := Lib.hid hs5
      have HG5 := Lib.hid (grownBy_trans HG4.out hg5)
      clear hs5 hg5
      obtain ⟨R3, hR3⟩ : ∃ R, dgS b (m + 1) bd2 = R := ⟨_, rfl⟩
      have H3' : Hid (numR b i = nr4 b R3) := Lib.hid (by rw [H2.out, H3.out, ← hR3]; rfl)
      rw [hR3] at h3a h3b HS5
      clear hR3
      obtain ⟨r, bd3⟩ := R3
      have hr : r ≤ b.length := h3b
      have HS5c : Hid (Scn _ g vb r bd3) := HS5
      have H4 : Hid (nr4 b (r, bd3) = if isB b bd3 r [101, 69] = true then dgS b (stepI (isB b bd3 (r + 1) [43, 45]) (r + 1)) bd3 else (r, bd3)) := Lib.hid rfl
      have HLT : Hid (isB b bd3 r [101, 69] = true → r < b.length) := Lib.hid isB_lt
      go_wp2_with fail
      refine (take_any g vb b r bd3 [101, 69] _ HS5c.out (HT.out.grown HG5.out) (by decide) (by omega)).mono ?_
      rintro e y9 ⟨rfl, hs9, hg9⟩
      have HS9 := Lib.hid hs9
      have HG9 := Lib.hid (grownBy_trans HG5.out hg9)
      clear hs9 hg9
      obtain ⟨t3, ht3⟩ : ∃ t, isB b bd3 r [101, 69] = t := ⟨_, rfl⟩
      rw [ht3] at H4 HLT HS9
      rw [ht3]
      clear ht3
      cases t3 with
      | false =>
        have HF : Hid (numR b i = (r, bd3)) := Lib.hid (H3'.out.trans H4.out)
        go_wp2_with fail
        go_end0
        exact ⟨rfl, by rw [HF.out]; exact HS9.out, HG9.out⟩
      | true =>
        have hr1 := HLT.out rfl
        have HF0 : Hid (numR b i = dgS b (stepI (isB b bd3 (r + 1) [43, 45]) (r + 1)) bd3) := Lib.hid (H3'.out.trans H4.out)
        obtain ⟨h5a, h5b⟩ := step_bd b (r + 1) bd3 [43, 45] (by omega)
        have HS9b : Hid (Scn _ g vb (r + 1) bd3) := HS9
        go_wp2_with fail
        refine (take_any g vb b (r + 1) bd3 [43, 45] _ HS9b.out (HT.out.grown HG9.out) (by decide) (by omega)).mono ?_
        rintro e y10 ⟨rfl, hs10, hg10⟩
        have HS10 := Lib.hid hs10
        have HG10 := Lib.hid (grownBy_trans HG9.out hg10)
        clear hs10 hg10
        obtain ⟨q, hq⟩ : ∃ q, stepI (isB b bd3 (r + 1) [43, 45]) (r + 1) = q := ⟨_, rfl⟩
        rw [hq] at HF0 h5a h5b HS10
        clear hq
        go_wp2_with fail
        refine (digits_any g vb b q bd3 _ HS10.out (HT.out.grown HG10.out) (by omega)).mono ?_
        rintro e y11 ⟨rfl, hs11, hg11⟩
        have HS11 := Lib.hid hs11
        have HG11 := Lib.hid (grownBy_trans HG10.out hg11)
        clear hs11 hg11
        go_wp2_with fail
        go_end0
        exact ⟨rfl, by rw [HF0.out]; exact HS11.out, HG11.out⟩
  | false =>
    have HS2b : Hid (Scn _ g vb p false) := HS2
    obtain ⟨h2a, h2b⟩ := digits_bd b p false h1b
    go_wp2_with fail
    refine (digits_any g vb b p false _ HS2b.out (HT.out.grown HG2.out) (by omega)).mono ?_
    rintro e y3 ⟨rfl, hs3, hg3⟩
    have HS3 := Lib.hid hs3
    have HG3 := Lib.hid (grownBy_trans HG2.out hg3)
    clear hs3 hg3
    obtain ⟨R2, hR2⟩ : ∃ R, dgS b p false = R := ⟨_, rfl⟩
    have H2 : Hid (numR b i = nr4 b (nr3 b R2)) := Lib.hid (by rw [HN.out, ← hR2]; rfl)
    rw [hR2] at h2a h2b HS3
    clear hR2
    obtain ⟨m, bd2⟩ := R2
    have hmm : m ≤ b.length := h2b
    have HS3c : Hid (Scn _ g vb m bd2) := HS3
    have H3 : Hid (nr3 b (m, bd2) = if isB b bd2 m [46] = true then dgS b (m + 1) bd2 else (m, bd2)) := Lib.hid rfl
    have HLT3 : Hid (isB b bd2 m [46] = true → m < b.length) := Lib.hid isB_lt
    go_wp2_with fail
    refine (take_any g vb b m bd2 [46] _ HS3c.out (HT.out.grown HG3.out) (by decide) (by omega)).mono ?_
    rintro e y12 ⟨rfl, hs12, hg12⟩
    have HS12 := Lib.hid hs12
    have HG12 := Lib.hid (grownBy_trans HG3.out hg12)
    clear hs12 hg12
    obtain ⟨t2, ht2⟩ : ∃ t, isB b bd2 m [46] = t := ⟨_, rfl⟩
    rw [ht2] at H3 HLT3 HS12
    rw [ht2]
    clear ht2
    cases t2 with
    | false =>
      obtain ⟨r, hre⟩ : ∃ r, m = r := ⟨_, rfl⟩
      obtain ⟨bd3, hbe⟩ : ∃ x, bd2 = x := ⟨_, rfl⟩
      have H3' : Hid (numR b i = nr4 b (r, bd3)) := Lib.hid (by rw [H2.out, H3.out, hre, hbe]; rfl)
      have HS12b : Hid (Scn _ g vb r bd3) := Lib.hid (by rw [← hre, ← hbe]; exact HS12.out)
      have hr : r ≤ b.length := by omega
      clear hre hbe
      have H4 : Hid (nr4 b (r, bd3) = if isB b bd3 r [101, 69] = true then dgS b (stepI (isB b bd3 (r + 1) [43, 45]) (r + 1)) bd3 else (r, bd3)) := Lib.hid rfl
      have HLT : Hid (isB b bd3 r [101, 69] = true → r < b.length) := Lib.hid isB_lt
      go_wp2_with fail
      refine (take_any g vb b r bd3 [101, 69] _ HS12b.out (HT.out.grown HG12.out) (by decide) (by omega)).mono ?_
      rintro e y14 ⟨rfl, hs14, hg14⟩
      have HS14 := Lib.hid hs14
      have HG14 := Lib.hid (grownBy_trans HG12.out hg14)
      clear hs14 hg14
      obtain ⟨t3, ht3⟩ : ∃ t, isB b bd3 r [101, 69] = t := ⟨_, rfl⟩
      rw [ht3] at H4 HLT HS14
      rw [ht3]
      clear ht3
      cases t3 with
      | false =>
        have HF : Hid (numR b i = (r, bd3)) := Lib.hid (H3'.out.trans H4.out)
        go_wp2_with fail
        go_end0
        exact ⟨rfl, by rw [HF.out]; exact HS14.out, HG14.out⟩
      | true =>
        have hr1 := HLT.out rfl
        have HF0 : Hid (numR b i = dgS b (stepI (isB b bd3 (r + 1) [43, 45]) (r + 1)) bd3) := Lib.hid (H3'.out.trans H4.out)
        obtain ⟨h5a, h5b⟩ := step_bd b (r + 1) bd3 [43, 45] (by omega)
        have HS14b : Hid (Scn _ g vb (r + 1) bd3) := HS14
        go_wp2_with fail
        refine (take_any g vb b (r + 1) bd3 [43, 45] _ HS14b.out (HT.out.grown HG14.out) (by decide) (by omega)).mono ?_
        rintro e y15 ⟨rfl, hs15, hg15⟩
        have HS15 := Lib.hid hs15
        have HG15 := Lib.hid (grownBy_trans HG14.out hg15)
        clear hs15 hg15
        obtain ⟨q, hq⟩ : ∃ q, stepI (isB b bd3 (r + 1) [43, 45]) (r + 1) = q := ⟨_, rfl⟩
        rw [hq] at HF0 h5a h5b HS15
        clear hq
        go_wp2_with fail
        refine (digits_any g vb b q bd3 _ HS15.out (HT.out.grown HG15.out) (by omega)).mono ?_
        rintro e y16 ⟨rfl, hs16, hg16⟩
        have HS16 := Lib.hid hs16
        have HG16 := Lib.hid (grownBy_trans HG15.out hg16)
        clear hs16 hg16
        go_wp2_with fail
        go_end0
        exact ⟨rfl, by rw [HF0.out]; exact HS16.out, HG16.out⟩
    | true =>
      have hm1 := HLT3.out rfl
      have HS12b : Hid (Scn _ g vb (m + 1) bd2) := HS12
      obtain ⟨h3a, h3b⟩ := digits_bd b (m + 1) bd2 (by omega)
      go_wp2_with fail
      refine (digits_any g vb b (m + 1) bd2 _ HS12b.out (HT.out.grown HG12.out) (by omega)).mono ?_
      rintro e y13 ⟨rfl, hs13, hg13⟩
      have HS13 := Lib.hid hs13
      have HG13 := Lib.hid (grownBy_trans HG12.out hg13)
      clear hs13 hg13
      obtain ⟨R3, hR3⟩ : ∃ R, dgS b (m + 1) bd2 = R := ⟨_, rfl⟩
      have H3' : Hid (numR b i = nr4 b R3) := Lib.hid (by rw [H2.out, H3.out, ← hR3]; rfl)
      rw [hR3] at h3a h3b HS13
      clear hR3
      obtain ⟨r, bd3⟩ := R3
      have hr : r ≤ b.length := h3b
      have HS13c : Hid (Scn _ g vb r bd3) := HS13
      have H4 : Hid (nr4 b (r, bd3) = if isB b bd3 r [101, 69] = true then dgS b (stepI (isB b bd3 (r + 1) [43, 45]) (r + 1)) bd3 else (r, bd3)) := Lib.hid rfl
      have HLT : Hid (isB b bd3 r [101, 69] = true → r < b.length) := Lib.hid isB_lt
      go_wp2_with fail
      refine (take_any g vb b r bd3 [101, 69] _ HS13c.out (HT.out.grown HG13.out) (by decide) (by omega)).mono ?_
      rintro e y17 ⟨rfl, hs17, hg17⟩
      have HS17 := Lib.hid hs17
      have HG17 := Lib.hid (grownBy_trans HG13.out hg17)
      clear hs17 hg17
      obtain ⟨t3, ht3⟩ : ∃ t, isB b bd3 r [101, 69] = t := ⟨_, rfl⟩
      rw [ht3] at H4 HLT HS17
      rw [ht3]
      clear ht3
      cases t3 with
      | false =>
        have HF : Hid (numR b i = (r, bd3)) := Lib.hid (H3'.out.trans H4.out)
        go_wp2_with fail
        go_end0
        exact ⟨rfl, by rw [HF.out]; exact HS17.out, HG17.out⟩
      | true =>
        have hr1 := HLT.out rfl
        have HF0 : Hid (numR b i = dgS b (stepI (isB b bd3 (r + 1) [43, 45]) (r + 1)) bd3) := Lib.hid (H3'.out.trans H4.out)
        obtain ⟨h5a, h5b⟩ := step_bd b (r + 1) bd3 [43, 45] (by omega)
        have HS17b : Hid (Scn _ g vb (r + 1) bd3) := HS17
        go_wp2_with fail
        refine (take_any g vb b (r + 1) bd3 [43, 45] _ HS17b.out (HT.out.grown HG17.out) (by decide) (by omega)).mono ?_
        rintro e y18 ⟨rfl, hs18, hg18⟩
        have HS18 := Lib.hid hs18
        have HG18 := Lib.hid (grownBy_trans HG17.out hg18)
        clear hs18 hg18
        obtain ⟨q, hq⟩ : ∃ q, stepI (isB b bd3 (r + 1) [43, 45]) (r + 1) = q := ⟨_, rfl⟩
        rw [hq] at HF0 h5a h5b HS18
        clear hq
        go_wp2_with fail
        refine (digits_any g vb b q bd3 _ HS18.out (HT.out.grown HG18.out) (by omega)).mono ?_
        rintro e y19 ⟨rfl, hs19, hg19⟩
        have HS19 := Lib.hid hs19
        have HG19 := Lib.hid (grownBy_trans HG18.out hg19)
        clear hs19 hg19
        go_wp2_with fail
        go_end0
        exact ⟨rfl, by rw [HF0.out]; exact HS19.out, HG19.out⟩
set_option maxHeartbeats 1000000 in
theorem digit4_any (c : Int) (w : World) (h0 : 0 ≤ c) (h1 : c ≤ 255) :
    Calls Try.prog 55 #[.int .u8 c] w fun e w' => e = .returned (.int .i64 (hexN c)) ∧ w' = w := by
  have HX : Hid (hexN c = if 48 ≤ c ∧ c ≤ 57 then c - 48 else if 97 ≤ c ∧ c ≤ 102 then c - 87 else if 65 ≤ c ∧ c ≤ 70 then c - 55 else -1) := Lib.hid rfl
  by_cases a : 48 ≤ c <;> by_cases b : c ≤ 57 <;> by_cases d : 97 ≤ c <;> by_cases e : c ≤ 102 <;> by_cases f : 65 ≤ c <;> by_cases g : c ≤ 70
  all_goals first
    | (exfalso; omega)
    | (go_enter Try.func55, Try.ntmps55
       go_wp2
       go_ret
       refine ⟨ret_n ?_, by trivial⟩
       rw [HX.out]
       (repeat' split) <;> first | rfl | omega)
theorem hexN_over {b : List UInt8} {i : Nat} (h : b.length ≤ i) : hexN (byt b i) < 0 := by rw [byt_over h]; decide
def notB (t : Bool) : Bool := !t
set_option maxRecDepth 100000 in
set_option maxHeartbeats 4000000 in
theorem rhex_any (g : Nat) (vb : Value) (b : List UInt8) (i : Nat) (w : World) (hs : Scn w g vb i false) (ht : Text w g vb b) (hi : i ≤ b.length) :
    Calls Try.prog 48 #[.pointer (some ⟨g, 0, none⟩)] w fun e w' => e = .returned (.int .i32 (hexM b 4 i 0).1) ∧ Scn w' g vb (hexM b 4 i 0).2.1 (notB (hexM b 4 i 0).2.2) ∧ w.grownBy w' (some g) := by
  have HT := Lib.hid ht
  have hm := ht.le
  have HS := Lib.hid hs
  clear ht hs
  go_enter Try.func48, Try.ntmps48
  go_wp2_with fail
  go_loopw [3, 4] (fun tu tk wr => ∃ (k j : Nat) (u : Int), (k = 0 ∧ u < 1 ∨ k = 1 ∧ u < 16 ∨ k = 2 ∧ u < 256 ∨ k = 3 ∧ u < 4096 ∨ k = 4 ∧ u < 65536) ∧ 0 ≤ u ∧ tk = .int .i64 k ∧ tu = .int .i32 u ∧ j ≤ b.length ∧ Hid (hexM b 4 i 0 = hexM b (4 - k) j u) ∧ Scn wr g vb j false ∧ w.grownBy wr (some g)) (fun _ tk _ => 4 - (intOf tk).toNat)
  case atStart => exact ⟨0, i, 0, .inl ⟨rfl, by decide⟩, by decide, rfl, rfl, hi, Lib.hid rfl, HS.out, grown_refl _ _⟩
  case round =>
    obtain ⟨k, j, u, hk, hu0, rfl, rfl, hj, HE, hs, hg⟩ := hrel
    have HTr := Lib.hid (HT.out.grown hg)
    have HSr := Lib.hid hs
    have HG := Lib.hid hg
    have c0 : wr.cell? ⟨g, 0, none⟩ = some vb := hs.c0
    have c1 : wr.cell? ⟨g, 1, none⟩ = some (.int .i64 j) := hs.c1
    have c2 : wr.cell? ⟨g, 2, none⟩ = some (.bool false) := hs.c2
    have fz : wr.frozen? ⟨g, 1, none⟩ = false := Box.frozen hs 1
    have fz2 : wr.frozen? ⟨g, 2, none⟩ = false := Box.frozen hs 2
    have HN := Lib.hid (fun k (h : hexN (byt b j) < 0) => hexM_no (k := k) (n := u) h)
    have HY := Lib.hid (fun k (h : ¬ hexN (byt b j) < 0) => hexM_yes (k := k) (n := u) h)
    have HO := Lib.hid (fun (h : b.length ≤ j) => hexN_over h)
    obtain ⟨a, cap, e, h1, h2, -, h4⟩ := HTr.out.is
    unfold maxLen at h2
    clear hs hg
    by_cases hlt : j < b.length
    · obtain ⟨bb, off, rfl, hc⟩ := h4 (by omega)
      have hcell : wr.cell? ⟨bb, off + j, none⟩ = some (.int .u8 (byt b j)) := hc.at j hlt
      have hltI : (j : Int) < (b.length : Int) := by omega
      have hgd : decide ((b.length : Int) ≤ (j : Int)) = false := by simp; omega
      have HC0 := Lib.hid c0
      subst e
      have b0 := byt_lo b j
      have b1 := byt_hi b j
      have HX := Lib.hid (fun W => digit4_any (byt b j) W b0 b1)
      obtain ⟨x0, x1⟩ := hexN_bd (byt b j)
      obtain ⟨c, hcc⟩ : ∃ c, byt b j = c := ⟨_, rfl⟩
      rw [hcc] at hcell HX b0 b1 HN HY x0 x1 HO
      obtain ⟨x, hx⟩ : ∃ x, hexN c = x := ⟨_, rfl⟩
      rw [hx] at HX x0 x1 HN HY HO
      clear hx hcc hc h4 HC0
      rcases hk with ⟨rfl, hu⟩ | ⟨rfl, hu⟩ | ⟨rfl, hu⟩ | ⟨rfl, hu⟩ | ⟨rfl, hu⟩
      · by_cases hx : x < 0
        · have HF := Lib.hid (HE.out.trans (HN.out 3 hx))
          have hxd : decide (x < 0) = true := by simp; omega
          go_wp2_with fail
          go_quiet ((go_at_call 55; exact Calls.quiet_of_same (HX.out _)))
          go_wp2_with fail
          go_ret
          exact ⟨ret_i32 (by rw [HF.out]), by rw [HF.out]; exact Scn.bad HSr.out _, grown_to HG.out _ _ _⟩
        · have HF := Lib.hid (HE.out.trans (HY.out 3 hx))
          have hxd : decide (x < 0) = false := by simp; omega
          go_wp2_with fail
          go_quiet ((go_at_call 55; exact Calls.quiet_of_same (HX.out _)))
          go_wp2_with fail
          go_quiet ((go_at_call 55; exact quietA HX.out))
          go_wp2_with fail
          exact ⟨⟨1, j + 1, u * 16 + x, .inr (.inl ⟨rfl, by omega⟩), by omega, by first | rfl | go_num, rfl, by omega, HF, HSr.out.to _ _ _ (by omega), grown_to HG.out _ _ _⟩, by simp [intOf]⟩
      · by_cases hx : x < 0
        · have HF := Lib.hid (HE.out.trans (HN.out 2 hx))
          have hxd : decide (x < 0) = true := by simp; omega
          go_wp2_with fail
          go_quiet ((go_at_call 55; exact Calls.quiet_of_same (HX.out _)))
          go_wp2_with fail
          go_ret
          exact ⟨ret_i32 (by rw [HF.out]), by rw [HF.out]; exact Scn.bad HSr.out _, grown_to HG.out _ _ _⟩
        · have HF := Lib.hid (HE.out.trans (HY.out 2 hx))
          have hxd : decide (x < 0) = false := by simp; omega
          go_wp2_with fail
          go_quiet ((go_at_call 55; exact Calls.quiet_of_same (HX.out _)))
          go_wp2_with fail
          go_quiet ((go_at_call 55; exact quietA HX.out))
          go_wp2_with fail
          exact ⟨⟨2, j + 1, u * 16 + x, .inr (.inr (.inl ⟨rfl, by omega⟩)), by omega, by first | rfl | go_num, rfl, by omega, HF, HSr.out.to _ _ _ (by omega), grown_to HG.out _ _ _⟩, by simp [intOf]⟩
      · by_cases hx : x < 0
        · have HF := Lib.hid (HE.out.trans (HN.out 1 hx))
          have hxd : decide (x < 0) = true := by simp; omega
          go_wp2_with fail
          go_quiet ((go_at_call 55; exact Calls.quiet_of_same (HX.out _)))
          go_wp2_with fail
          go_ret
          exact ⟨ret_i32 (by rw [HF.out]), by rw [HF.out]; exact Scn.bad HSr.out _, grown_to HG.out _ _ _⟩
        · have HF := Lib.hid (HE.out.trans (HY.out 1 hx))
          have hxd : decide (x < 0) = false := by simp; omega
          go_wp2_with fail
          go_quiet ((go_at_call 55; exact Calls.quiet_of_same (HX.out _)))
          go_wp2_with fail
          go_quiet ((go_at_call 55; exact quietA HX.out))
          go_wp2_with fail
          exact ⟨⟨3, j + 1, u * 16 + x, .inr (.inr (.inr (.inl ⟨rfl, by omega⟩))), by omega, by first | rfl | go_num, rfl, by omega, HF, HSr.out.to _ _ _ (by omega), grown_to HG.out _ _ _⟩, by simp [intOf]⟩
      · by_cases hx : x < 0
        · have HF := Lib.hid (HE.out.trans (HN.out 0 hx))
          have hxd : decide (x < 0) = true := by simp; omega
          go_wp2_with fail
          go_quiet ((go_at_call 55; exact Calls.quiet_of_same (HX.out _)))
          go_wp2_with fail
          go_ret
          exact ⟨ret_i32 (by rw [HF.out]), by rw [HF.out]; exact Scn.bad HSr.out _, grown_to HG.out _ _ _⟩
        · have HF := Lib.hid (HE.out.trans (HY.out 0 hx))
          have hxd : decide (x < 0) = false := by simp; omega
          go_wp2_with fail
          go_quiet ((go_at_call 55; exact Calls.quiet_of_same (HX.out _)))
          go_wp2_with fail
          go_quiet ((go_at_call 55; exact quietA HX.out))
          go_wp2_with fail
          exact ⟨⟨4, j + 1, u * 16 + x, .inr (.inr (.inr (.inr (⟨rfl, by omega⟩)))), by omega, by first | rfl | go_num, rfl, by omega, HF, HSr.out.to _ _ _ (by omega), grown_to HG.out _ _ _⟩, by simp [intOf]⟩
      · have HF : Hid (hexM b 4 i 0 = (u, j, true)) := Lib.hid HE.out
        go_wp2_with fail
        go_ret
        exact ⟨ret_i32 (by rw [HF.out]), by rw [HF.out]; exact HSr.out, HG.out⟩
    · have hgd : decide ((b.length : Int) ≤ (j : Int)) = true := by simp; omega
      have hx := HO.out (by omega)
      subst e
      clear h4
      rcases hk with ⟨rfl, hu⟩ | ⟨rfl, hu⟩ | ⟨rfl, hu⟩ | ⟨rfl, hu⟩ | ⟨rfl, hu⟩
      · have HF := Lib.hid (HE.out.trans (HN.out 3 hx))
        clear hx
        go_wp2_with fail
        go_quiet (fail)
        go_wp2_with fail
        go_ret
        exact ⟨ret_i32 (by rw [HF.out]), by rw [HF.out]; exact Scn.bad HSr.out _, grown_to HG.out _ _ _⟩
      · have HF := Lib.hid (HE.out.trans (HN.out 2 hx))
        clear hx
        go_wp2_with fail
        go_quiet (fail)
        go_wp2_with fail
        go_ret
        exact ⟨ret_i32 (by rw [HF.out]), by rw [HF.out]; exact Scn.bad HSr.out _, grown_to HG.out _ _ _⟩
      · have HF := Lib.hid (HE.out.trans (HN.out 1 hx))
        clear hx
        go_wp2_with fail
        go_quiet (fail)
        go_wp2_with fail
        go_ret
        exact ⟨ret_i32 (by rw [HF.out]), by rw [HF.out]; exact Scn.bad HSr.out _, grown_to HG.out _ _ _⟩
      · have HF := Lib.hid (HE.out.trans (HN.out 0 hx))
        clear hx
        go_wp2_with fail
        go_quiet (fail)
        go_wp2_with fail
        go_ret
        exact ⟨ret_i32 (by rw [HF.out]), by rw [HF.out]; exact Scn.bad HSr.out _, grown_to HG.out _ _ _⟩
      · clear hx
        have HF : Hid (hexM b 4 i 0 = (u, j, true)) := Lib.hid HE.out
        go_wp2_with fail
        go_ret
        exact ⟨ret_i32 (by rw [HF.out]), by rw [HF.out]; exact HSr.out, HG.out⟩
theorem isB_w1 {b wd : List UInt8} {q j : Nat} (hj : j < wd.length) (hz : ∀ c ∈ wd, c ≠ 0) : isB b false q ((wd.take (j + 1)).drop j) = decide (byt b q = byt wd j) := by
  have e : byt wd j = ((wd[j]).toNat : Int) := by unfold byt; simp [List.getD, hj]
  have e2 : (wd.take (j + 1)).drop j = [wd[j]] := by rw [List.drop_take, List.drop_eq_getElem_cons hj, show j + 1 - j = 1 by omega]; rfl
  have hc : wd[j] ≠ 0 := hz _ (List.getElem_mem hj)
  have hn : ((wd[j]).toNat : Int) ≠ 0 := by
    intro h0; apply hc; apply UInt8.toNat_inj.1; show (wd[j]).toNat = 0; omega
  rw [e2, e]
  unfold isB memB
  rw [Bool.eq_iff_iff]
  simp
  constructor
  · rintro ⟨-, h⟩; exact h.symm
  · intro h; exact ⟨byt_lt h hn, h.symm⟩
set_option maxRecDepth 100000 in
set_option maxHeartbeats 4000000 in
theorem rword_any (g : Nat) (vb : Value) (b : List UInt8) (i : Nat) (wd : List UInt8) (w : World) (hs : Scn w g vb i false) (ht : Text w g vb b) (hi : i ≤ b.length) (hw : wd.length ≤ 10) (hz : ∀ c ∈ wd, c ≠ 0) :
    Calls Try.prog 36 #[.pointer (some ⟨g, 0, none⟩), .string ⟨wd.toArray⟩] w fun e w' => e = .returned (.tuple #[]) ∧ Scn w' g vb (wordM b wd i).1 (notB (wordM b wd i).2) ∧ w.grownBy w' (some g) := by
  have hm := ht.le
  have HS := Lib.hid hs
  have HT := Lib.hid ht
  have HWS := Lib.hid (fun j i (h : j < wd.length) => @wordM_step b wd j i h)
  have HIO := Lib.hid (fun q j (h : j < wd.length) => isB_w1 (b := b) (q := q) h hz)
  clear hs ht hz
  go_enter Try.func36, Try.ntmps36
  go_wp2_with fail
  go_loopw [4] (fun tj wr => ∃ (j q : Nat) (bad : Bool), j ≤ wd.length ∧ q ≤ b.length + 10 ∧ tj = .int .i64 j ∧ Hid ((bad = false ∧ q = i + j ∧ wordM b wd i = wordM b (wd.drop j) q) ∨ (bad = true ∧ wordM b wd i = (q, false))) ∧ Scn wr g vb q bad ∧ w.grownBy wr (some g)) (fun tj _ => wd.length - (intOf tj).toNat)
  case atStart => exact ⟨0, i, false, Nat.zero_le _, by omega, rfl, Lib.hid (.inl ⟨rfl, rfl, rfl⟩), HS.out, grown_refl _ _⟩
  case round =>
    obtain ⟨j, q, bad, hj, hqb, rfl, HE, hs, hg⟩ := hrel
    have HTr := Lib.hid (HT.out.grown hg)
    have HSr := Lib.hid hs
    have HG := Lib.hid hg
    have d2 : wr.cell? ⟨g, 2, none⟩ = some (.bool bad) := hs.c2
    clear hs hg
    by_cases hlt2 : j < wd.length
    · have hltI : (j : Int) < (wd.length : Int) := by omega
      cases bad with
      | true =>
        have HF : Hid (wordM b wd i = (q, false)) := Lib.hid (by
          rcases HE.out with ⟨h, -⟩ | ⟨-, h⟩
          · cases h
          · exact h)
        go_wp2_with fail
        go_end0
        exact ⟨rfl, by rw [HF.out]; exact HSr.out, HG.out⟩
      | false =>
        have HE2 : Hid (q = i + j ∧ wordM b wd i = wordM b (wd.drop j) q) := Lib.hid (by
          rcases HE.out with ⟨-, h⟩ | ⟨h, -⟩
          · exact h
          · cases h)
        have HTK := Lib.hid (take_any g vb b q false ((wd.take (j + 1)).drop j) wr HSr.out HTr.out (by simp; omega) (by omega))
        rw [HIO.out q j hlt2] at HTK
        have HW := Lib.hid (HE2.out.2.trans (HWS.out j q hlt2))
        have hq2 : q < b.length + 10 := by have := HE2.out.1; omega
        by_cases hc : byt b q = byt wd j
        · have HF : Hid (wordM b wd i = wordM b (wd.drop (j + 1)) (q + 1)) := Lib.hid (by rw [HW.out, if_pos hc])
          have HTK2 : Hid (Calls Try.prog 22 #[.pointer (some ⟨g, 0, none⟩), .string ⟨((wd.take (j + 1)).drop j).toArray⟩] wr fun e w' => e = .returned (.bool true) ∧ Scn w' g vb (q + 1) false ∧ wr.grownBy w' (some g)) := Lib.hid (by have h := HTK.out; rw [decide_eq_true hc] at h; exact h)
          clear hc HTK
          go_wp2_with fail
          refine HTK2.out.mono ?_
          rintro e x1 ⟨rfl, hs1, hg1⟩
          have HS1 := Lib.hid hs1
          have HG1 := Lib.hid (grownBy_trans HG.out hg1)
          clear hs1 hg1
          go_wp2_with fail
          exact ⟨⟨j + 1, q + 1, false, by omega, by omega, by go_num, Lib.hid (.inl ⟨rfl, by have := HE2.out.1; omega, HF.out⟩), HS1.out, HG1.out⟩, by simp [intOf]; omega⟩
        · have HF : Hid (wordM b wd i = (q, false)) := Lib.hid (by rw [HW.out, if_neg hc])
          have HTK2 : Hid (Calls Try.prog 22 #[.pointer (some ⟨g, 0, none⟩), .string ⟨((wd.take (j + 1)).drop j).toArray⟩] wr fun e w' => e = .returned (.bool false) ∧ Scn w' g vb q false ∧ wr.grownBy w' (some g)) := Lib.hid (by have h := HTK.out; rw [decide_eq_false hc] at h; exact h)
          clear hc HTK
          go_wp2_with fail
          refine HTK2.out.mono ?_
          rintro e x1 ⟨rfl, hs1, hg1⟩
          have HS1 := Lib.hid hs1
          have HG1 := Lib.hid (grownBy_trans HG.out hg1)
          have e2 : x1.cell? ⟨g, 2, none⟩ = some (.bool false) := hs1.c2
          have f2 : x1.frozen? ⟨g, 2, none⟩ = false := Box.frozen hs1 2
          clear hs1 hg1
          go_wp2_with fail
          exact ⟨⟨j + 1, q, true, by omega, by omega, by go_num, Lib.hid (.inr ⟨rfl, HF.out⟩), (by unfold Scn; exact Box.set HS1.out 2 (by simp) _), grown_to0 HG1.out 2 _⟩, by simp [intOf]; omega⟩
    · obtain rfl : j = wd.length := by omega
      have HF : Hid (Scn wr g vb (wordM b wd i).1 (notB (wordM b wd i).2)) := Lib.hid (by
        rcases HE.out with ⟨rfl, h1, h2⟩ | ⟨rfl, h2⟩
        · rw [h2, List.drop_length]; exact HSr.out
        · rw [h2]; exact HSr.out)
      go_wp2_with fail
      go_end0
      exact ⟨rfl, HF.out, HG.out⟩
theorem hexM_full (b : List UInt8) : ∀ (k i : Nat) (n : Int), i ≤ b.length → (hexM b k i n).2.2 = true → i + k ≤ b.length ∧ (hexM b k i n).2.1 = i + k := by
  intro k
  induction k with
  | zero => intro i n h _; exact ⟨h, rfl⟩
  | succ k ih =>
    intro i n h ht
    by_cases hx : hexN (byt b i) < 0
    · rw [hexM_no hx] at ht; cases ht
    · rw [hexM_yes hx] at ht ⊢
      have hl := hexN_lt hx
      have := ih (i + 1) _ (by omega) ht
      omega
theorem lowB_short {b : List UInt8} {p : Nat} (h : b.length < p + 6) : lowB b p = false := by
  unfold lowB
  rw [decide_eq_false_iff_not]
  rintro ⟨h1, h2, h3, -, -⟩
  have hl : p + 1 < b.length := byt_lt h2 (by decide)
  have := (hexM_full b 4 (p + 2) 0 (by omega) h3).1
  omega
theorem lowB_c {b : List UInt8} {p : Nat} (h : byt b p ≠ 92) : lowB b p = false := by
  unfold lowB
  rw [decide_eq_false_iff_not]
  exact fun h1 => h h1.1
theorem lowB_d {b : List UInt8} {p : Nat} (h : byt b (p + 1) ≠ 117) : lowB b p = false := by
  unfold lowB
  rw [decide_eq_false_iff_not]
  exact fun h1 => h h1.2.1
theorem lowB_e {b : List UInt8} {p : Nat} (h1 : byt b p = 92) (h2 : byt b (p + 1) = 117) (u : Int) (q : Nat) (ok : Bool) (hR : hexM b 4 (p + 2) 0 = (u, q, ok)) : lowB b p = (ok && (decide (56320 ≤ u) && decide (u ≤ 57343))) := by
  unfold lowB
  rw [hR, Bool.eq_iff_iff]
  simp [h1, h2]
  intro _ _
  omega
theorem textB_of {w : World} {vb : Value} {b : List UInt8} (hv : Is8 w vb b) (hm : b.length ≤ 1000000) : TextB w w.heap.size vb b :=
  ⟨hv, fun hn bb off l c e => by
    obtain ⟨a, cap, e2, h1, h2, h3, h4⟩ := hv
    obtain ⟨bb2, off2, e3, hc⟩ := h4 hn
    subst e2
    injection e with e4
    rw [e3] at e4
    injection e4 with e5
    injection e5 with e6
    have := hc.lt hn
    omega, hm⟩
set_option maxRecDepth 100000 in
set_option maxHeartbeats 4000000 in
theorem low_any (g : Nat) (vb : Value) (b : List UInt8) (i : Nat) (bad : Bool) (w : World) (hs : Scn w g vb i bad) (ht : Text w g vb b) (hi : i ≤ b.length) :
    Calls Try.prog 49 #[.pointer (some ⟨g, 0, none⟩)] w fun e w' => e = .returned (.bool (lowB b i)) ∧ Below w.heap.size w w' := by
  have hm := ht.le
  have HTB := Lib.hid (textB_of ht.is hm)
  have HB0 := Lib.hid (Below.refl w.heap.size w)
  have d0 := hs.c0
  have d1 := hs.c1
  have hgs0 : g < w.heap.size := Box.lt hs
  have HAL := Lib.hid (fun n (o : Obj) => Box.alloc (Box.drew hs n) o)
  have HT := Lib.hid ht
  obtain ⟨a, cap, e, h1, h2, -, h4⟩ := HT.out.is
  unfold maxLen at h2
  clear hs ht
  by_cases hsh : b.length < i + 6
  · have HF : Hid (lowB b i = false) := Lib.hid (lowB_short hsh)
    have hshI : (b.length : Int) - (i : Int) < 6 := by omega
    subst e
    clear h4
    go_enter Try.func49, Try.ntmps49
    go_wp2_with fail
    go_quiet (fail)
    go_wp2_with fail
    go_ret
    exact ⟨ret_b HF.out.symm, below_dr HB0.out _⟩
  have hshI : (6 : Int) ≤ (b.length : Int) - (i : Int) := by omega
  have hgs : decide ((b.length : Int) - (i : Int) < 6) = false := by simp; omega
  obtain ⟨bb, off, rfl, hc⟩ := h4 (by omega)
  have hcell : w.cell? ⟨bb, off + i, none⟩ = some (.int .u8 (byt b i)) := hc.at i (by omega)
  have hcell2 : w.cell? ⟨bb, off + (i + 1), none⟩ = some (.int .u8 (byt b (i + 1))) := hc.at (i + 1) (by omega)
  subst e
  have HLC := Lib.hid (fun (h : byt b i ≠ 92) => lowB_c h)
  have HLD := Lib.hid (fun (h : byt b (i + 1) ≠ 117) => lowB_d h)
  have HLE := Lib.hid (fun (h1 : byt b i = 92) (h2 : byt b (i + 1) = 117) => lowB_e h1 h2)
  obtain ⟨c, hcc⟩ : ∃ c, byt b i = c := ⟨_, rfl⟩
  obtain ⟨d, hdd⟩ : ∃ d, byt b (i + 1) = d := ⟨_, rfl⟩
  rw [hcc] at hcell HLC HLE
  rw [hdd] at hcell2 HLD HLE
  clear hcc hdd hc h4 hsh
  by_cases hcq : c = 92
  · subst hcq
    by_cases hdq : d = 117
    · subst hdq
      have HHX := Lib.hid (fun W (G : Nat) h1 h2 => rhex_any G (.slice (some ⟨bb, off, none⟩) b.length cap) b (i + 2) W h1 h2 (by omega))
      have HQB := hexM_val b 4 (i + 2) 0 (by decide)
      obtain ⟨R, hR⟩ : ∃ R, hexM b 4 (i + 2) 0 = R := ⟨_, rfl⟩
      have HLF := Lib.hid (fun u q ok => HLE.out rfl rfl u q ok)
      rw [hR] at HHX HQB HLF
      clear hR HLC HLD HLE
      obtain ⟨u, q, ok⟩ := R
      have v0 : 0 ≤ u := HQB.1
      have v1 : u < 65536 := by have : u < (0 + 1) * 16 ^ 4 := HQB.2; omega
      have HLG := Lib.hid (HLF.out u q ok rfl)
      have HHY : Hid (∀ W (G : Nat), Scn W G (.slice (some ⟨bb, off, none⟩) b.length cap) (i + 2) false → Text W G (.slice (some ⟨bb, off, none⟩) b.length cap) b → Calls Try.prog 48 #[.pointer (some ⟨G, 0, none⟩)] W fun e w' => e = .returned (.int .i32 u) ∧ Scn w' G (.slice (some ⟨bb, off, none⟩) b.length cap) q (notB ok) ∧ W.grownBy w' (some G)) := Lib.hid HHX.out
      clear HQB HHX HLF
      go_enter Try.func49, Try.ntmps49
      go_wp2_with fail
      go_quiet (fail)
      go_wp2_with fail
      have k0 : ∀ n o, ((w.drewN n).alloc o).cell? ⟨g, 0, none⟩ = some (.slice (some ⟨bb, off, none⟩) b.length cap) := fun n o => Scn.c0 (HAL.out n o)
      have k1 : ∀ n o, ((w.drewN n).alloc o).cell? ⟨g, 1, none⟩ = some (.int .i64 i) := fun n o => Scn.c1 (HAL.out n o)
      have HNW := Lib.hid (fun n => Box.new (w.drewN n) 55 [.slice none 0 0, .int .i64 0, .bool false])
      have n0 : ∀ n, ((w.drewN n).alloc (.cells #[.slice none 0 0, .int .i64 0, .bool false] 55)).cell? ⟨w.heap.size, 0, none⟩ = some (.slice none 0 0) := fun n => Box.cell (HNW.out n) 0
      have n1 : ∀ n, ((w.drewN n).alloc (.cells #[.slice none 0 0, .int .i64 0, .bool false] 55)).cell? ⟨w.heap.size, 1, none⟩ = some (.int .i64 0) := fun n => Box.cell (HNW.out n) 1
      have n2 : ∀ n, ((w.drewN n).alloc (.cells #[.slice none 0 0, .int .i64 0, .bool false] 55)).cell? ⟨w.heap.size, 2, none⟩ = some (.bool false) := fun n => Box.cell (HNW.out n) 2
      have nf : ∀ n k, ((w.drewN n).alloc (.cells #[.slice none 0 0, .int .i64 0, .bool false] 55)).frozen? ⟨w.heap.size, k, none⟩ = false := fun n k => Box.frozen (HNW.out n) k
      go_region
      all_goals
        have ei : ((i + 2 : Nat) : Int) = (i : Int) + 2 := by omega
        have HS1 := Lib.hid (fun n => Box.set (Box.set (Box.set (HNW.out n) 0 (by simp) (.slice (some ⟨bb, off, none⟩) b.length cap)) 1 (by simp) (.int .i64 ((i : Int) + 2))) 2 (by simp) (.bool false))
        have HB1 := Lib.hid (fun n (o : Obj) v1 v2 v3 => (((below_dr HB0.out n).alloc (by exact Nat.le_refl _) o).setCell (p := ⟨w.heap.size, 0, none⟩) (Nat.le_refl _) v1).setCell (p := ⟨w.heap.size, 1, none⟩) (Nat.le_refl _) v2 |>.setCell (p := ⟨w.heap.size, 2, none⟩) (Nat.le_refl _) v3)
        clear k0 k1 n0 n1 n2 nf
        go_wp2_with fail
        refine (HHY.out _ _ (by unfold Scn; rw [ei]; exact HS1.out _) ((HTB.out.below (by exact HB1.out _ _ _ _ _)).at (Nat.le_refl _))).mono ?_
        rintro e w' ⟨rfl, hs2, hg2⟩
        have HB2 : Hid (Below w.heap.size w w') := Lib.hid ((HB1.out _ _ _ _ _).grown hg2 (by simp) (fun k hk => by cases hk; omega))
        have e2 : w'.cell? ⟨w.heap.size, 2, none⟩ = some (.bool (notB ok)) := Scn.c2 hs2
        clear hs2 hg2 HS1 HB1
        cases ok with
        | false =>
          have e3 : w'.cell? ⟨w.heap.size, 2, none⟩ = some (.bool true) := e2
          clear e2
          have HF : Hid (lowB b i = false) := Lib.hid HLG.out
          go_wp2_with fail
          go_ret
          exact ⟨ret_b HF.out.symm, HB2.out⟩
        | true =>
          have e3 : w'.cell? ⟨w.heap.size, 2, none⟩ = some (.bool false) := e2
          clear e2
          have HF : Hid (lowB b i = (decide (56320 ≤ u) && decide (u ≤ 57343))) := Lib.hid HLG.out
          by_cases q1 : 56320 ≤ u
          · by_cases q2 : u ≤ 57343
            · have HF2 : Hid (lowB b i = true) := Lib.hid (by rw [HF.out]; simp [q1, q2])
              go_wp2_with fail
              go_ret
              exact ⟨ret_b HF2.out.symm, HB2.out⟩
            · have HF2 : Hid (lowB b i = decide (u ≤ 57343)) := Lib.hid (by rw [HF.out]; simp [q1])
              go_wp2_with fail
              go_ret
              exact ⟨ret_b HF2.out.symm, HB2.out⟩
          · have HF2 : Hid (lowB b i = false) := Lib.hid (by rw [HF.out]; simp [q1])
            go_wp2_with fail
            go_ret
            exact ⟨ret_b HF2.out.symm, HB2.out⟩
    · have HF : Hid (lowB b i = false) := Lib.hid (HLD.out hdq)
      have g2 : (d != 117) = true := by simpa using hdq
      have g1 : (d == 117) = false := by simpa using hdq
      clear hdq
      go_enter Try.func49, Try.ntmps49
      go_wp2_with fail
      go_quiet (fail)
      go_wp2_with fail
      go_ret
      exact ⟨ret_b HF.out.symm, below_dr HB0.out _⟩
  · have HF : Hid (lowB b i = false) := Lib.hid (HLC.out hcq)
    have g2 : (c != 92) = true := by simpa using hcq
    have g1 : (c == 92) = false := by simpa using hcq
    clear hcq
    go_enter Try.func49, Try.ntmps49
    go_wp2_with fail
    go_quiet (fail)
    go_wp2_with fail
    go_ret
    exact ⟨ret_b HF.out.symm, below_dr HB0.out _⟩
def froL : List UInt8 := [34, 92, 47, 98, 102, 110, 114, 116]
def toL : List UInt8 := [34, 92, 47, 8, 12, 10, 13, 9]
theorem short_yes {c : Int} {j : Nat} (hj : j < 8) (h : byt froL j = c) : shortN c = byt toL j ∧ shortN c ≠ 0 := by
  subst h
  rcases (by omega : j = 0 ∨ j = 1 ∨ j = 2 ∨ j = 3 ∨ j = 4 ∨ j = 5 ∨ j = 6 ∨ j = 7) with rfl | rfl | rfl | rfl | rfl | rfl | rfl | rfl <;> decide
theorem short_no {c : Int} (h : ∀ k, k < 8 → byt froL k ≠ c) : shortN c = 0 := by
  have h0 : (34 : Int) ≠ c := h 0 (by decide)
  have h1 : (92 : Int) ≠ c := h 1 (by decide)
  have h2 : (47 : Int) ≠ c := h 2 (by decide)
  have h3 : (98 : Int) ≠ c := h 3 (by decide)
  have h4 : (102 : Int) ≠ c := h 4 (by decide)
  have h5 : (110 : Int) ≠ c := h 5 (by decide)
  have h6 : (114 : Int) ≠ c := h 6 (by decide)
  have h7 : (116 : Int) ≠ c := h 7 (by decide)
  unfold shortN
  (repeat' split) <;> first | rfl | omega
theorem short_117 : shortN 117 = 0 := by decide
theorem escM_end {b : List UInt8} {i : Nat} (h : b.length ≤ i + 1) : escM b i = ([], i + 1, false) := by
  unfold escM
  rw [byt_over h]
  rfl
theorem escM_short {b : List UInt8} {i : Nat} (h : shortN (byt b (i + 1)) ≠ 0) : escM b i = ([mkB (shortN (byt b (i + 1)))], i + 2, true) := by
  unfold escM
  rw [if_neg (fun e => by rw [e] at h; exact h short_117), if_neg h]
theorem escM_bad {b : List UInt8} {i : Nat} (h : shortN (byt b (i + 1)) = 0) (h2 : byt b (i + 1) ≠ 117) : escM b i = ([], i + 1, false) := by
  unfold escM
  rw [if_neg h2, if_pos h]
def FroNot (c : Int) (j : Nat) : Prop := ∀ k, k < j → byt froL k ≠ c
theorem FroNot.next {c : Int} {j : Nat} (h : FroNot c j) (h2 : byt froL j ≠ c) : FroNot c (j + 1) := by
  intro k hk
  rcases Nat.lt_or_ge k j with h3 | h3
  · exact h k h3
  · obtain rfl : k = j := by omega
    exact h2
def EscPost (w : World) (g : Nat) (vb : Value) (b : List UInt8) (i : Nat) (e : Ending) (w' : World) : Prop :=
  ∃ v', e = .returned v' ∧ Own w' w.heap.size 5 v' ((escM b i).1.map u8V) ∧ Scn w' g vb (escM b i).2.1 (notB (escM b i).2.2) ∧ w.grownBy w' (some g)
theorem lowB_in {b : List UInt8} {p : Nat} (h : lowB b p = true) : p + 6 ≤ b.length ∧ (hexM b 4 (p + 2) 0).2.2 = true ∧ 56320 ≤ (hexM b 4 (p + 2) 0).1 ∧ (hexM b 4 (p + 2) 0).1 ≤ 57343 := by
  have h2 : b.length < p + 6 → False := fun h3 => by rw [lowB_short h3] at h; cases h
  have h4 := of_decide_eq_true h
  exact ⟨by
    rcases Nat.lt_or_ge b.length (p + 6) with h5 | h5
    · exact absurd h5 h2
    · exact h5, h4.2.2.1, h4.2.2.2.1, by have := h4.2.2.2.2; omega⟩
set_option maxRecDepth 100000 in
set_option maxHeartbeats 4000000 in
theorem resc_end (g : Nat) (vb : Value) (b : List UInt8) (i : Nat) (p : Nat) (hp : i + 1 = p) (w : World) (hs : Scn w g vb p false) (ht : Text w g vb b) (hi : b.length = p) :
    Calls Try.prog 44 #[.pointer (some ⟨g, 0, none⟩)] w (EscPost w g vb b i) := by
  have d0 := hs.c0
  have d1 := hs.c1
  have HS := Lib.hid hs
  have HF := Lib.hid (escM_end (b := b) (i := i) (by omega))
  have hm := ht.le
  obtain ⟨a, cap, e, h1, h2, -, h4⟩ := ht.is
  subst e
  have hgd : decide (b.length ≤ p) = true := by simp; omega
  have d2 := hs.c2
  have fz : w.frozen? ⟨g, 2, none⟩ = false := Box.frozen hs 2
  have HI := Lib.hid hi
  have HP := Lib.hid hp
  clear hs ht hi h4 hp
  go_enter Try.func44, Try.ntmps44
  go_wp2_with fail
  go_quiet (fail)
  go_wp2_with fail
  go_ret
  exact ⟨.slice none 0 0, rfl, by rw [HF.out]; exact Own.nil _ _ _, by rw [HF.out, HP.out]; exact Scn.bad HS.out _, grown_to (grown_refl _ _) _ _ _⟩
set_option maxRecDepth 100000 in
set_option maxHeartbeats 8000000 in
theorem resc_in (g : Nat) (vb : Value) (b : List UInt8) (i : Nat) (p : Nat) (hp : i + 1 = p) (w : World) (hs : Scn w g vb p false) (ht : Text w g vb b) (hi : p < b.length) :
    Calls Try.prog 44 #[.pointer (some ⟨g, 0, none⟩)] w (EscPost w g vb b i) := by
  have d0 := hs.c0
  have d1 := hs.c1
  have hm := ht.le
  have fz : w.frozen? ⟨g, 1, none⟩ = false := Box.frozen hs 1
  have HS := Lib.hid hs
  have HT := Lib.hid ht
  obtain ⟨a, cap, e, h1, h2, -, h4⟩ := ht.is
  unfold maxLen at h2
  obtain ⟨bb, off, rfl, hc⟩ := h4 (by omega)
  have hcell : w.cell? ⟨bb, off + p, none⟩ = some (.int .u8 (byt b p)) := hc.at p (by omega)
  subst e
  have hgd : decide (b.length ≤ p) = false := by simp; omega
  have hltI : (p : Int) < (b.length : Int) := by omega
  have HSH := Lib.hid (fun h => escM_short (b := b) (i := i) h)
  have HBA := Lib.hid (fun h => escM_bad (b := b) (i := i) h)
  have HU := Lib.hid (fun h => escM_u (b := b) (i := i) h)
  have HTK := Lib.hid (fun W (hs' : Scn W g (.slice (some ⟨bb, off, none⟩) b.length cap) p false) ht' => take_any g (.slice (some ⟨bb, off, none⟩) b.length cap) b p false [117] W hs' ht' (by decide) (by omega))
  rw [show isB b false p [117] = (byt b p == 117) from isB_one (by decide)] at HTK
  have hp2 : i + 2 = p + 1 := by omega
  rw [hp] at HSH HBA HU
  rw [hp2] at HSH HU
  obtain ⟨c, hcc⟩ : ∃ c, byt b p = c := ⟨_, rfl⟩
  rw [hcc] at hcell HSH HBA HU HTK
  clear hs ht hc h4 hcc hi hp hp2
  go_enter Try.func44, Try.ntmps44
  go_wp2_with fail
  go_quiet (fail)
  go_wp2_with fail
  go_loopw [5] (fun tj wr => ∃ j : Nat, j ≤ 8 ∧ tj = .int .i64 j ∧ Hid (FroNot c j) ∧ ∃ m, wr = w.drewN m) (fun tj _ => 8 - (intOf tj).toNat)
  case atStart => exact ⟨0, Nat.zero_le _, rfl, Lib.hid (fun k hk => by omega), _, rfl⟩
  case round =>
    obtain ⟨j, hj, rfl, HN, m, rfl⟩ := hrel
    by_cases hlt : j < 8
    · have hltI2 : (j : Int) < 8 := by omega
      by_cases hq : c = byt froL j
      · have HY := Lib.hid (short_yes hlt hq.symm)
        have HF := Lib.hid (HSH.out HY.out.2)
        have g1 : (c == byt froL j) = true := by simpa using hq
        have g2 : (c == byt [34, 92, 47, 98, 102, 110, 114, 116] j) = true := g1
        clear hq
        go_wp2_with fail
        go_quiet (fail)
        go_wp2_with fail
        go_ret
        have b0 := byt_lo toL j
        have b1 := byt_hi toL j
        have HOW := Lib.hid (fun (W : World) (hW : w.heap.size ≤ W.heap.size) => Own.lit W w.heap.size 5 #[.int .u8 (byt [34, 92, 47, 8, 12, 10, 13, 9] j)] 1 rfl hW (by decide))
        have HGW := Lib.hid (fun k x => grown_to (grown_refl w (some g)) k 1 x)
        refine ⟨.slice (some ⟨_, 0, none⟩) 1 1, rfl, ?_, ?_, ?_⟩
        rotate_left
        · rw [HF.out]; exact Box.alloc (HS.out.to _ (p + 1) _ (by omega)) _
        · exact grownBy_trans (HGW.out _ _) (grownBy_none (World.grownBy_alloc _ _ none))
        · rw [HF.out]
          have e1 : [mkB (shortN c)].map u8V = [Value.int .u8 (byt [34, 92, 47, 8, 12, 10, 13, 9] j)] := by rw [HY.out.1]; exact (by simp [u8V_mk b0 b1] : [mkB (byt toL j)].map u8V = [Value.int .u8 (byt toL j)])
          show Own _ _ _ _ ([mkB (shortN c)].map u8V)
          rw [e1]
          simpa using HOW.out _ (HGW.out _ _).size
      · have HN2 := Lib.hid (HN.out.next (fun h => hq h.symm))
        have g1 : (c == byt froL j) = false := by simpa using hq
        have g2 : (c == byt [34, 92, 47, 98, 102, 110, 114, 116] j) = false := g1
        clear hq
        go_wp2_with fail
        go_quiet (fail)
        go_wp2_with fail
        exact ⟨⟨j + 1, by omega, by go_num, HN2, _, by first | rfl | (rw [World.drewN_drewN])⟩, by simp [intOf]; omega⟩
    · obtain rfl : j = 8 := by omega
      have HZ := Lib.hid (short_no HN.out)
      have HSm := Lib.hid (Box.drew HS.out m)
      by_cases hu : c = 117
      · have g1 : (c == 117) = true := by simpa using hu
        have HTK2 : Hid (∀ m, Calls Try.prog 22 #[.pointer (some ⟨g, 0, none⟩), .string ⟨[117].toArray⟩] (w.drewN m) fun e w' => e = .returned (.bool true) ∧ Scn w' g (.slice (some ⟨bb, off, none⟩) b.length cap) (p + 1) false ∧ (w.drewN m).grownBy w' (some g)) := Lib.hid (fun m => by have h := HTK.out (w.drewN m) (Box.drew HS.out m) (HT.out.grown (grownBy_drew _ _ _)); rw [g1] at h; exact h)
        have HHX := Lib.hid (fun W h1 h2 => rhex_any g (.slice (some ⟨bb, off, none⟩) b.length cap) b (p + 1) W h1 h2 (by omega))
        have HQB := hexM_val b 4 (p + 1) 0 (by decide)
        have HQD := hexM_bd b 4 (p + 1) 0 (by omega)
        have HES := Lib.hid (HU.out hu)
        have HZE := Lib.hid (hexM_zero b 4 (p + 1) 0)
        obtain ⟨R, hR⟩ : ∃ R, hexM b 4 (p + 1) 0 = R := ⟨_, rfl⟩
        rw [hR] at HHX HQB HQD HES HZE
        clear hR hu HTK HU HBA HSH HZ HN
        obtain ⟨u, q, ok⟩ := R
        have v0 : 0 ≤ u := HQB.1
        have v1 : u < 65536 := by have : u < (0 + 1) * 16 ^ 4 := HQB.2; omega
        have hqb : q ≤ b.length := HQD.2
        have HH2 : Hid (∀ W, Scn W g (.slice (some ⟨bb, off, none⟩) b.length cap) (p + 1) false → Text W g (.slice (some ⟨bb, off, none⟩) b.length cap) b → Calls Try.prog 48 #[.pointer (some ⟨g, 0, none⟩)] W fun e w' => e = .returned (.int .i32 u) ∧ Scn w' g (.slice (some ⟨bb, off, none⟩) b.length cap) q (notB ok) ∧ W.grownBy w' (some g)) := Lib.hid HHX.out
        have HE2 : Hid (escM b i = (if ok = true then encR (fixR (pointM b u q).1) else [], (pointM b u q).2, ok)) := Lib.hid (HES.out u q ok rfl)
        have HNOP := Lib.hid (pointM_no (b := b) (u := u) (p := q))
        have HYEP := Lib.hid (pointM_yes (b := b) (u := u) (p := q))
        have HZ2 : Hid (ok = false → u = 0) := Lib.hid HZE.out
        clear HHX HQB HQD HES HZE
        go_wp2_with fail
        refine (HTK2.out _).mono ?_
        rintro e x1 ⟨rfl, hs1, hg1⟩
        have HG1 := Lib.hid (grownBy_trans (grownBy_drew w m (some g)) hg1)
        have HS1 := Lib.hid hs1
        clear hs1 hg1
        go_wp2_with fail
        refine (HH2.out _ HS1.out (HT.out.grown HG1.out)).mono ?_
        rintro e x2 ⟨rfl, hs2, hg2⟩
        have HG2 := Lib.hid (grownBy_trans HG1.out hg2)
        have HS2 := Lib.hid hs2
        have e2 : x2.cell? ⟨g, 2, none⟩ = some (.bool (notB ok)) := hs2.c2
        clear hs2 hg2
        cases ok with
        | false =>
          have HF : Hid (escM b i = ([], q, false)) := Lib.hid (by
            have hu0 := HZ2.out rfl
            rw [HE2.out, HNOP.out (.inl (by omega))]; rfl)
          have e3 : x2.cell? ⟨g, 2, none⟩ = some (.bool true) := e2
          clear e2
          go_wp2_with fail
          go_ret
          exact ⟨.slice none 0 0, rfl, by rw [HF.out]; exact Own.nil _ _ _, by rw [HF.out]; exact HS2.out, HG2.out⟩
        | true =>
          have e3 : x2.cell? ⟨g, 2, none⟩ = some (.bool false) := e2
          clear e2
          by_cases hr : 55296 ≤ u ∧ u ≤ 56319
          · obtain ⟨r0, r1⟩ := hr
            have HLW := Lib.hid (low_any g (.slice (some ⟨bb, off, none⟩) b.length cap) b q false x2 HS2.out (HT.out.grown HG2.out) hqb)
            have HLI := Lib.hid (lowB_in (b := b) (p := q))
            have HYE := Lib.hid (HYEP.out (by omega) (by omega))
            have HNO := Lib.hid (fun h => HNOP.out (.inr (.inr h)))
            obtain ⟨lb, hlb⟩ : ∃ lb, lowB b q = lb := ⟨_, rfl⟩
            rw [hlb] at HLW HLI HYE HNO
            clear hlb HYEP HNOP
            cases lb with
            | true =>
              obtain ⟨q1, q2, q3, q4⟩ := HLI.out rfl
              have HHX := Lib.hid (fun W h1 h2 => rhex_any g (.slice (some ⟨bb, off, none⟩) b.length cap) b (q + 2) W h1 h2 (by omega))
              have HY2 := Lib.hid (HYE.out rfl)
              obtain ⟨R, hR⟩ : ∃ R, hexM b 4 (q + 2) 0 = R := ⟨_, rfl⟩
              rw [hR] at HHX HY2 q2 q3 q4
              obtain ⟨l, q', ok2⟩ := R
              have q2 : ok2 = true := q2
              subst q2
              have q3 : 56320 ≤ l := q3
              have q4 : l ≤ 57343 := q4
              have HF : Hid (escM b i = (encR (fixR (65536 + (u - 55296) * 1024 + l - 56320)), q', true)) := Lib.hid (by
                rw [HE2.out, HY2.out, show 65536 + (u - 55296) * 1024 + l - 56320 = 65536 + (u - 55296) * 1024 + (l - 56320) by omega]; rfl)
              have HH3 : Hid (∀ W, Scn W g (.slice (some ⟨bb, off, none⟩) b.length cap) (q + 2) false → Text W g (.slice (some ⟨bb, off, none⟩) b.length cap) b → Calls Try.prog 48 #[.pointer (some ⟨g, 0, none⟩)] W fun e w' => e = .returned (.int .i32 l) ∧ Scn w' g (.slice (some ⟨bb, off, none⟩) b.length cap) q' false ∧ W.grownBy w' (some g)) := Lib.hid HHX.out
              clear hR HHX HY2 HYE HNO HLI HE2 q1
              go_wp2_with fail
              refine HLW.out.mono ?_
              rintro e x3 ⟨rfl, hb3⟩
              have HG3 := Lib.hid (grownBy_trans HG2.out (grownBy_below hb3 _))
              have hs3 : Scn x3 g (.slice (some ⟨bb, off, none⟩) b.length cap) q false := Box.below HS2.out hb3 (Box.lt HS2.out)
              have HS3 := Lib.hid hs3
              have e1 : x3.cell? ⟨g, 1, none⟩ = some (.int .i64 q) := hs3.c1
              have f1 : x3.frozen? ⟨g, 1, none⟩ = false := Box.frozen hs3 1
              have HS4 : Hid (Scn (x3.setCell ⟨g, 1, none⟩ (.int .i64 ((q : Int) + 2))) g (.slice (some ⟨bb, off, none⟩) b.length cap) (q + 2) false) := Lib.hid (Box.set hs3 1 (by simp) _)
              have HG4 := Lib.hid (grown_to0 HG3.out 1 (.int .i64 ((q : Int) + 2)))
              have HT4 := Lib.hid (HT.out.grown HG4.out)
              clear hb3 hs3
              go_wp2_with fail
              refine (HH3.out _ HS4.out HT4.out).mono ?_
              rintro e x4 ⟨rfl, hs4, hg4⟩
              have HS5 := Lib.hid hs4
              have HG5 := Lib.hid (grownBy_trans HG4.out hg4)
              clear hs4 hg4
              go_wp2_with fail
              refine (bytes_any _ _ (by omega) (by omega)).mono ?_
              rintro e x5 ⟨v', rfl, ho4, hb4⟩
              go_wp2_with fail
              go_ret
              exact ⟨v', rfl, by rw [HF.out]; exact Own.base ho4 HG5.out.size, by rw [HF.out]; exact Box.below HS5.out hb4 (Box.lt HS5.out), grownBy_trans HG5.out (grownBy_below hb4 _)⟩
            | false =>
              have HF : Hid (escM b i = (encR (fixR u), q, true)) := Lib.hid (by rw [HE2.out, HNO.out rfl]; rfl)
              clear HE2 HNO HYE HLI
              go_wp2_with fail
              refine HLW.out.mono ?_
              rintro e x3 ⟨rfl, hb3⟩
              have HG3 := Lib.hid (grownBy_trans HG2.out (grownBy_below hb3 _))
              have HS3 := Lib.hid (Box.below HS2.out hb3 (Box.lt HS2.out))
              clear hb3
              go_wp2_with fail
              refine (bytes_any u _ (by omega) (by omega)).mono ?_
              rintro e x4 ⟨v', rfl, ho4, hb4⟩
              go_wp2_with fail
              go_ret
              exact ⟨v', rfl, by rw [HF.out]; exact Own.base ho4 HG3.out.size, by rw [HF.out]; exact Box.below HS3.out hb4 (Box.lt HS3.out), grownBy_trans HG3.out (grownBy_below hb4 _)⟩
          · have HF : Hid (escM b i = (encR (fixR u), q, true)) := Lib.hid (by rw [HE2.out, HNOP.out (by omega)]; rfl)
            clear HE2 HNOP HYEP
            by_cases r0 : 55296 ≤ u
            · have r1 : 56319 < u := by omega
              have dg : decide (u ≤ 56319) = false := by simpa using r1
              clear hr
              go_wp2_with fail
              refine (bytes_any u _ (by omega) (by omega)).mono ?_
              rintro e x4 ⟨v', rfl, ho4, hb4⟩
              go_wp2_with fail
              go_ret
              exact ⟨v', rfl, by rw [HF.out]; exact Own.base ho4 HG2.out.size, by rw [HF.out]; exact Box.below HS2.out hb4 (Box.lt HS2.out), grownBy_trans HG2.out (grownBy_below hb4 _)⟩
            · have r1 : u < 55296 := by omega
              have dg : decide (55296 ≤ u) = false := by simpa using r1
              clear hr
              go_wp2_with fail
              refine (bytes_any u _ (by omega) (by omega)).mono ?_
              rintro e x4 ⟨v', rfl, ho4, hb4⟩
              go_wp2_with fail
              go_ret
              exact ⟨v', rfl, by rw [HF.out]; exact Own.base ho4 HG2.out.size, by rw [HF.out]; exact Box.below HS2.out hb4 (Box.lt HS2.out), grownBy_trans HG2.out (grownBy_below hb4 _)⟩
      · have HF := Lib.hid (HBA.out HZ.out hu)
        have g1 : (c == 117) = false := by simpa using hu
        have HTK2 : Hid (∀ m, Calls Try.prog 22 #[.pointer (some ⟨g, 0, none⟩), .string ⟨[117].toArray⟩] (w.drewN m) fun e w' => e = .returned (.bool false) ∧ Scn w' g (.slice (some ⟨bb, off, none⟩) b.length cap) p false ∧ (w.drewN m).grownBy w' (some g)) := Lib.hid (fun m => by have h := HTK.out (w.drewN m) (Box.drew HS.out m) (HT.out.grown (grownBy_drew _ _ _)); rw [g1] at h; exact h)
        clear hu HTK
        go_wp2_with fail
        refine (HTK2.out _).mono ?_
        rintro e x1 ⟨rfl, hs1, hg1⟩
        have HS1 := Lib.hid hs1
        have HG1 := Lib.hid (grownBy_trans (grownBy_drew w m (some g)) hg1)
        have d2 : x1.cell? ⟨g, 2, none⟩ = some (.bool false) := hs1.c2
        have f2 : x1.frozen? ⟨g, 2, none⟩ = false := Box.frozen hs1 2
        clear hs1 hg1
        go_wp2_with fail
        go_ret
        exact ⟨.slice none 0 0, rfl, by rw [HF.out]; exact Own.nil _ _ _, by rw [HF.out]; exact Box.set HS1.out 2 (by simp) _, grown_to0 HG1.out _ _⟩
theorem resc_any (g : Nat) (vb : Value) (b : List UInt8) (i : Nat) (w : World) (hs : Scn w g vb (i + 1) false) (ht : Text w g vb b) (hi : i < b.length) :
    Calls Try.prog 44 #[.pointer (some ⟨g, 0, none⟩)] w (EscPost w g vb b i) := by
  rcases Nat.lt_or_ge (i + 1) b.length with h | h
  · exact resc_in g vb b i (i + 1) rfl w hs ht h
  · exact resc_end g vb b i (i + 1) rfl w hs ht (by omega)
end Go.Proofs.Ytncfmmpdlcnboaa
namespace Go.Proofs.Ytncfmmpdlcnboaa
def isNumM (s : List UInt8) : Bool := (numM s 0).2 && ((numM s 0).1 == s.length)
theorem numM_no {b : List UInt8} {i : Nat} (h : ¬ (byt b i = 45 ∨ digC (byt b i) = true)) : (numM b i).2 = false := by
  have h1 : byt b i ≠ 45 := fun e => h (.inl e)
  have h2 : digC (byt b i) = false := by rw [Bool.eq_false_iff]; exact fun e => h (.inr e)
  have h3 : byt b i ≠ 48 := fun e => by rw [e] at h2; exact absurd h2 (by decide)
  unfold numM
  rw [if_neg h1]
  unfold intM
  rw [if_neg h3, if_neg (by rw [h2]; simp)]
end Go.Proofs.Ytncfmmpdlcnboaa
