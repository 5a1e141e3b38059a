/- The walks of layer 1's laws: UtfWalks, UtfParts, UtfCut. -/
import Derived.Test.YtknfgpphfedbmaaLaw1
set_option linter.unusedVariables false
set_option linter.unusedSimpArgs false
namespace Go.Proofs.Ytknfgpphfedbmaa
open Go.RowKit

set_option maxHeartbeats 1000000 in
theorem UtfWalks_walk (a0 : Option Addr) (len0 cap0 : Nat) (z0 : List Int) (w : World) (w0 : IsRow .u8 w a0 len0 cap0 z0) :
    Calls Try.prog 8 #[.slice a0 len0 cap0] w fun e w' => e = .returned (.bool true) ∧ Below w.heap.size w w' := by
  obtain ⟨l, rfl, h8⟩ := isRow8 w0
  have H8 := Lib.hid h8
  clear w0
  by_cases hlen : 300 < l.length
  · clear h8
    go_enter Try.func8, Try.ntmps8
    go_wp2_with fail
    refine (awake_any _).mono ?_
    rintro e w1 ⟨rfl, hb⟩
    go_wp2
    go_ret
    exact ⟨rfl, hb⟩
  · have hm : l.length ≤ 1000000 := by omega
    have hd := decL_len _ l (Nat.le_refl _)
    obtain ⟨a, cap, hv, hc1, hc2, -, hs⟩ := h8
    cases hv
    unfold maxLen at hc2
    have HC : Hid (0 < l.length → ∃ b off, a0 = some ⟨b, off, none⟩ ∧ Cells w b off l.length (u8At l)) := Lib.hid hs
    clear hs
    go_enter Try.func8, Try.ntmps8
    go_wp2_with fail
    go_loopw [3, 4] (fun tv ti wr => ∃ (k : Nat) (ds : List Int), k ≤ l.length ∧ ti = .int .i64 k ∧ Own wr w.heap.size 21 tv (ds.map (Value.int .i32)) ∧ ds.length ≤ k ∧ Below w.heap.size w wr ∧ Hid (decL l = ds ++ decL (l.drop k))) (fun _ ti _ => l.length - (intOf ti).toNat)
    case atStart => exact ⟨0, [], by omega, rfl, by simpa using Own.nil _ _ _, by simp, Below.refl _ _, Lib.hid (by simp)⟩
    case round =>
      obtain ⟨k, ds, hk, rfl, hown, hdk, hbel, HR⟩ := hrel
      by_cases hlt : k < l.length
      · have hkc : ¬ k = cap0 := by omega
        have hkc' : k < cap0 := by omega
        obtain ⟨b, off, rfl, hc⟩ := HC.out (by omega)
        have hbw := hc.lt (by omega)
        have HI : Hid (Is8 wr (.slice (some ⟨b, off + k, none⟩) (l.length - k) (cap0 - k)) (l.drop k)) := Lib.hid (Is8.dropAt (hc.below hbel hbw) k hlt hc1 (by unfold maxLen; omega))
        have hnn := nextL_n (l.drop k) (by simp; omega)
        have HV := Lib.hid (decL_cons (l := l.drop k) (by simp; omega))
        have hsz := hbel.size
        simp only [List.length_drop] at hnn
        obtain ⟨hn1, hn2, hn3, hn4⟩ := hnn
        have HB := Lib.hid hbel
        have HN4 := Lib.hid hn4
        clear hbel hc hn4
        go_wp2_with fail
        refine (next_any _ (l.drop k) _ HI.out (by simp; omega)).mono ?_
        rintro e w' ⟨rfl, n2, rfl⟩
        rw [List.drop_drop] at HV
        generalize nextL (l.drop k) = t at *
        obtain ⟨r, nn, ok⟩ := t
        have h0n : ¬ ((nn : Int) < 1) := by simp at hn1; omega
        have h4n : ¬ ((4 : Int) < nn) := by simp at hn3; omega
        have hln : ¬ ((l.length : Int) - k < nn) := by simp at hn2; omega
        simp only at hn1 hn2 hn3
        cases ok with
        | true =>
          go_wp2_with (at_builtin; refine wpList_appL _ rfl _ _ 28 rfl w.heap.size 21 (.int .i32 0) 4 ok32 _ _ rfl (hown.drew n2) #[.int .i32 r] 1 1 rfl rfl ?c1 ?c2 ?c3 ?c4 ?_)
          case c1 => rfl
          case c2 => simp; omega
          case c3 => simp; omega
          case c4 => simpa using hsz
          intro v' w2 hown2 hgr
          have hb2 : Below w.heap.size w w2 := (below_drewN HB.out n2).grown hgr (by simpa using hsz) (fun k hk => (hown.row k hk).1)
          go_wp2
          go_roundw
          case rel => exact ⟨k + nn, ds ++ [r], by omega, by go_num, by simpa using hown2, by simp; omega, hb2, Lib.hid (by rw [HR.out, HV.out]; simp)⟩
          case measure => simp [intOf]; omega
        | false =>
          have hq := HN4.out rfl
          simp only at hq
          obtain ⟨rfl, hq3⟩ := hq
          have h3n : ¬ ((3 : Int) < nn) := by omega
          go_wp2_with (at_builtin; refine wpList_appL _ rfl _ _ 28 rfl w.heap.size 21 (.int .i32 0) 4 ok32 _ _ rfl (hown.drew n2) #[.int .i32 65533] 1 1 rfl rfl ?c1 ?c2 ?c3 ?c4 ?_)
          case c1 => rfl
          case c2 => simp; omega
          case c3 => simp; omega
          case c4 => simpa using hsz
          intro v' w2 hown2 hgr
          have hb2 : Below w.heap.size w w2 := (below_drewN HB.out n2).grown hgr (by simpa using hsz) (fun k hk => (hown.row k hk).1)
          go_wp2
          go_roundw
          case rel => exact ⟨k + nn, ds ++ [65533], by omega, by go_num, by simpa using hown2, by simp; omega, hb2, Lib.hid (by rw [HR.out, HV.out]; simp)⟩
          case measure => simp [intOf]; omega
      · obtain rfl : k = l.length := by omega
        have hde : decL l = ds := by rw [HR.out, decL_nil (l := l.drop l.length) (by simp)]; simp
        have HDE := Lib.hid hde
        have HO := Lib.hid hown
        have HB := Lib.hid hbel
        clear hde hown hbel
        go_wp2_with fail
        refine (decode_any _ l _ (H8.out.below HB.out) hm).mono ?_
        rintro e w1 ⟨v1, rfl, hown1, hb1⟩
        have HO1 := Lib.hid hown1
        have HB1 := Lib.hid hb1
        clear hown1 hb1
        go_wp2_with fail
        refine (runes_eq _ _ (decL l) _ HO1.out.is32 (by rw [HDE.out]; exact HO.out.is32.below HB1.out) (by omega)).mono ?_
        rintro e w3 ⟨rfl, k5, rfl⟩
        go_wp2_with fail
        refine (awake_any _).mono ?_
        rintro e w4 ⟨rfl, hb⟩
        go_wp2
        go_ret
        exact ⟨rfl, ext_trans HB.out (ext_trans (ext_trans HB1.out (ext_drew _ _)) hb)⟩

set_option maxHeartbeats 1000000 in
theorem UtfParts_walk (a0 : Option Addr) (len0 cap0 : Nat) (z0 : List Int) (a1 : Option Addr) (len1 cap1 : Nat) (z1 : List Int) (w : World) (w0 : IsRow .u8 w a0 len0 cap0 z0) (w1 : IsRow .u8 w a1 len1 cap1 z1) :
    Calls Try.prog 7 #[.slice a0 len0 cap0, .slice a1 len1 cap1] w fun e w' => e = .returned (.bool true) ∧ Below w.heap.size w w' := by
  obtain ⟨l, rfl, h8⟩ := isRow8 w0
  obtain ⟨l', rfl, h8'⟩ := isRow8 w1
  have H8 := Lib.hid h8
  have H8' := Lib.hid h8'
  clear w0 w1 h8 h8'
  by_cases hlen : 100 < l.length
  · go_enter Try.func7, Try.ntmps7
    go_wp2_with fail
    refine (awake_any _).mono ?_
    rintro e w1 ⟨rfl, hb⟩
    go_wp2
    go_ret
    exact ⟨rfl, hb⟩
  by_cases hlen' : 100 < l'.length
  · go_enter Try.func7, Try.ntmps7
    go_wp2_with fail
    refine (awake_any _).mono ?_
    rintro e w1 ⟨rfl, hb⟩
    go_wp2
    go_ret
    exact ⟨rfl, hb⟩
  have hm : l.length ≤ 1000000 := by omega
  have hm' : l'.length ≤ 1000000 := by omega
  cases hv : validL l with
  | false =>
    have HVV := Lib.hid hv
    clear hv
    go_enter Try.func7, Try.ntmps7
    go_wp2_with fail
    refine (rvalid_any _ l _ H8.out hm).mono ?_
    rintro e w1 ⟨rfl, k1, rfl⟩
    rw [HVV.out]
    go_wp2_with fail
    refine (awake_any _).mono ?_
    rintro e w1 ⟨rfl, hb⟩
    go_wp2
    go_ret
    exact ⟨rfl, ext_trans (ext_drew _ _) hb⟩
  | true =>
    have HVV := Lib.hid hv
    have hda := dec_append _ l l' (Nat.le_refl _) hv
    have HDA := Lib.hid hda
    have hd := decL_len _ l (Nat.le_refl _)
    have hd' := decL_len _ l' (Nat.le_refl _)
    clear hv hda
    go_enter Try.func7, Try.ntmps7
    go_wp2_with fail
    refine (rvalid_any _ l _ H8.out hm).mono ?_
    rintro e w1 ⟨rfl, k1, rfl⟩
    rw [HVV.out]
    go_wp2_with (at_builtin; refine wpList_appS _ rfl _ _ 22 rfl w.heap.size 5 (.int .u8 0) 1 ok8 _ _ rfl (Own.nil _ _ _) _ _ _ rfl (H8.out.drew _) ?c1 ?c2 ?c3 ?c4 ?_)
    case c1 => intro i hi; rfl
    case c2 => simp; omega
    case c3 => simp; omega
    case c4 => simp
    intro v2 w2 hown2 hgr2
    rw [u8At_range] at hown2
    try rw [List.nil_append] at hown2
    have hb2 : Below w.heap.size w w2 := (ext_drew w k1).grown hgr2 (by simp) (fun k hk => by simp [Value.ownBlock] at hk)
    have HO2 := Lib.hid hown2
    have HB2 := Lib.hid hb2
    have hz2 := hb2.size
    clear hown2 hb2
    go_wp2_with (at_builtin; refine wpList_appS _ rfl _ _ 22 rfl w.heap.size 5 (.int .u8 0) 1 ok8 _ _ rfl HO2.out _ _ _ rfl (H8'.out.below HB2.out) ?c1 ?c2 ?c3 ?c4 ?_)
    case c1 => intro i hi; rfl
    case c2 => simp; omega
    case c3 => simp; omega
    case c4 => exact hz2
    intro v3 w3 hown3 hgr3
    rw [u8At_range, ← List.map_append] at hown3
    have hb3 : Below w.heap.size w w3 := HB2.out.grown hgr3 hz2 (fun k hk => (HO2.out.row k hk).1)
    have HO3 := Lib.hid hown3
    have HB3 := Lib.hid hb3
    clear hown3 hb3
    go_wp2_with fail
    refine (decode_any _ (l ++ l') _ HO3.out.is8 (by simp; omega)).mono ?_
    rintro e w4 ⟨v4, rfl, hown4, hb4⟩
    rw [HDA.out.1] at hown4
    have HO4 := Lib.hid hown4
    have HB4 := Lib.hid hb4
    clear hown4 hb4
    go_wp2_with fail
    refine (decode_any _ l _ (H8.out.below (ext_trans HB3.out HB4.out)) hm).mono ?_
    rintro e w5 ⟨v5, rfl, hown5, hb5⟩
    have HO5 := Lib.hid hown5
    have HB5 := Lib.hid hb5
    clear hown5 hb5
    go_wp2_with fail
    refine (decode_any _ l' _ (H8'.out.below (ext_trans (ext_trans HB3.out HB4.out) HB5.out)) hm').mono ?_
    rintro e w6 ⟨v6, rfl, hown6, hb6⟩
    have HO6 := Lib.hid hown6
    have HB6 := Lib.hid hb6
    have hz5 := HB5.out.size
    have hz6 := hb6.size
    clear hown6 hb6
    go_wp2_with (at_builtin; refine wpList_appS _ rfl _ _ 28 rfl w4.heap.size 21 (.int .i32 0) 4 ok32 _ _ rfl (HO5.out.below HB6.out) _ _ _ rfl HO6.out.is32 ?c1 ?c2 ?c3 ?c4 ?_)
    case c1 => intro i hi; rfl
    case c2 => simp; omega
    case c3 => simp; omega
    case c4 => omega
    intro v7 w7 hown7 hgr7
    rw [i32At_range, ← List.map_append] at hown7
    have hb7 : Below w4.heap.size w4 w7 := (ext_trans HB5.out HB6.out).grown hgr7 (by omega) (fun k hk => (HO5.out.row k hk).1)
    have HO7 := Lib.hid hown7
    have HB7 := Lib.hid hb7
    clear hown7 hb7
    go_wp2_with fail
    refine (runes_eq _ _ (decL l ++ decL l') _ (HO4.out.is32.below HB7.out) HO7.out.is32 (by simp; omega)).mono ?_
    rintro e w8 ⟨rfl, k8, rfl⟩
    go_wp2_with fail
    refine (valid_any _ (l ++ l') _ (((HO3.out.is8.below HB4.out).below HB7.out).drew _) (by simp; omega)).mono ?_
    rintro e w8 ⟨rfl, k9, rfl⟩
    rw [HDA.out.2]
    go_wp2_with fail
    refine (valid_any _ l' _ ((H8'.out.below (ext_trans (ext_trans HB3.out HB4.out) HB7.out)).drew _) hm').mono ?_
    rintro e w8 ⟨rfl, k10, rfl⟩
    go_wp2_with fail
    refine (awake_any _).mono ?_
    rintro e w9 ⟨rfl, hb⟩
    go_wp2
    go_ret
    exact ⟨rfl, ext_trans (ext_trans (ext_trans (ext_trans HB3.out HB4.out) HB7.out) (ext_drew _ _)) hb⟩

def scalarN (n : Int) : Int := if 55296 ≤ lowN n 1114112 ∧ lowN n 1114112 ≤ 57343 then lowN n 1114112 - 55296 else lowN n 1114112
theorem scalarN_ok (n : Int) : okR (scalarN n) := by
  have := lowN_bd n 1114112 (by decide)
  unfold scalarN okR; split <;> omega
set_option maxHeartbeats 400000 in
theorem scalar_any (n : Int) (w : World) (h0 : -9223372036854775808 ≤ n) (h1 : n ≤ 9223372036854775807) :
    Calls Try.prog 19 #[.int .i64 n] w fun e w' => e = .returned (.int .i32 (scalarN n)) ∧ w = w' := by
  have hb := lowN_bd n 1114112 (by decide)
  have HS : Hid (scalarN n = if 55296 ≤ lowN n 1114112 ∧ lowN n 1114112 ≤ 57343 then lowN n 1114112 - 55296 else lowN n 1114112) := Lib.hid rfl
  obtain ⟨hb0, hb1⟩ := hb
  by_cases c1 : 55296 ≤ lowN n 1114112
  · by_cases c2 : lowN n 1114112 ≤ 57343
    · go_enter Try.func19, Try.ntmps19
      go_wp2_with fail
      refine (low_any _ _ _ h0 h1 (by decide) (by decide)).mono ?_
      rintro e w1 ⟨rfl, rfl⟩
      go_wp2
      go_ret
      exact ⟨by rw [HS.out, if_pos ⟨c1, c2⟩]; rfl, by trivial⟩
    · go_enter Try.func19, Try.ntmps19
      go_wp2_with fail
      refine (low_any _ _ _ h0 h1 (by decide) (by decide)).mono ?_
      rintro e w1 ⟨rfl, rfl⟩
      go_wp2
      go_ret
      exact ⟨by rw [HS.out, if_neg (by omega)]; rfl, by trivial⟩
  · go_enter Try.func19, Try.ntmps19
    go_wp2_with fail
    refine (low_any _ _ _ h0 h1 (by decide) (by decide)).mono ?_
    rintro e w1 ⟨rfl, rfl⟩
    go_wp2
    go_ret
    exact ⟨by rw [HS.out, if_neg (by omega)]; rfl, by trivial⟩

/-- A code point's bytes, cut off, are none, as long as they are. -/
theorem next_cut (r : Int) (h : okR r) (k : Nat) (h1 : 1 ≤ k) (h2 : k < (encR r).length) : nextL ((encR r).take k) = (65533, k, false) := by
  unfold okR at h
  obtain ⟨h0, h3, h4⟩ := h
  unfold encR at h2 ⊢
  by_cases c1 : r < 128
  · rw [if_pos c1] at h2; simp at h2; omega
  rw [if_neg c1] at h2 ⊢
  by_cases c2 : r < 2048
  · rw [if_pos c2] at h2 ⊢
    obtain rfl : k = 1 := by simp at h2; omega
    have b0 : byt (List.take 1 [mkB (192 + r / 64), mkB (128 + r % 64)]) 0 = 192 + r / 64 := mkB_val (by omega) (by omega)
    rw [nextL_2 (by simp) (by omega) (by omega), nl_no (by simp)]
  rw [if_neg c2] at h2 ⊢
  by_cases c3 : r < 65536
  · rw [if_pos c3] at h2 ⊢
    have hk : k = 1 ∨ k = 2 := by simp at h2; omega
    rcases hk with rfl | rfl
    · have b0 : byt (List.take 1 [mkB (224 + r / 4096), mkB (128 + r / 64 % 64), mkB (128 + r % 64)]) 0 = 224 + r / 4096 := mkB_val (by omega) (by omega)
      rw [nextL_3 (by simp) (by omega) (by omega), nl_no (by simp)]
    · have b0 : byt (List.take 2 [mkB (224 + r / 4096), mkB (128 + r / 64 % 64), mkB (128 + r % 64)]) 0 = 224 + r / 4096 := mkB_val (by omega) (by omega)
      have b1 : byt (List.take 2 [mkB (224 + r / 4096), mkB (128 + r / 64 % 64), mkB (128 + r % 64)]) 1 = 128 + r / 64 % 64 := mkB_val (by omega) (by omega)
      rw [nextL_3 (by simp) (by omega) (by omega), nl_yes ⟨by simp, by split <;> omega, by split <;> omega⟩, nl_no (by simp)]
  · rw [if_neg c3] at h2 ⊢
    have hk : k = 1 ∨ k = 2 ∨ k = 3 := by simp at h2; omega
    rcases hk with rfl | rfl | rfl
    · have b0 : byt (List.take 1 [mkB (240 + r / 262144), mkB (128 + r / 4096 % 64), mkB (128 + r / 64 % 64), mkB (128 + r % 64)]) 0 = 240 + r / 262144 := mkB_val (by omega) (by omega)
      rw [nextL_4 (by simp) (by omega) (by omega), nl_no (by simp)]
    · have b0 : byt (List.take 2 [mkB (240 + r / 262144), mkB (128 + r / 4096 % 64), mkB (128 + r / 64 % 64), mkB (128 + r % 64)]) 0 = 240 + r / 262144 := mkB_val (by omega) (by omega)
      have b1 : byt (List.take 2 [mkB (240 + r / 262144), mkB (128 + r / 4096 % 64), mkB (128 + r / 64 % 64), mkB (128 + r % 64)]) 1 = 128 + r / 4096 % 64 := mkB_val (by omega) (by omega)
      rw [nextL_4 (by simp) (by omega) (by omega), nl_yes ⟨by simp, by split <;> omega, by split <;> omega⟩, nl_no (by simp)]
    · have b0 : byt (List.take 3 [mkB (240 + r / 262144), mkB (128 + r / 4096 % 64), mkB (128 + r / 64 % 64), mkB (128 + r % 64)]) 0 = 240 + r / 262144 := mkB_val (by omega) (by omega)
      have b1 : byt (List.take 3 [mkB (240 + r / 262144), mkB (128 + r / 4096 % 64), mkB (128 + r / 64 % 64), mkB (128 + r % 64)]) 1 = 128 + r / 4096 % 64 := mkB_val (by omega) (by omega)
      have b2 : byt (List.take 3 [mkB (240 + r / 262144), mkB (128 + r / 4096 % 64), mkB (128 + r / 64 % 64), mkB (128 + r % 64)]) (1 + 1) = 128 + r / 64 % 64 := mkB_val (by omega) (by omega)
      rw [nextL_4 (by simp) (by omega) (by omega), nl_yes ⟨by simp, by split <;> omega, by split <;> omega⟩, nl_yes ⟨by simp, by omega, by omega⟩, nl_no (by simp)]

theorem encR_one (r : Int) (h : okR r) : (encR r).length = 1 → r < 128 := by
  unfold okR at h; unfold encR
  intro h1
  by_cases c1 : r < 128
  · exact c1
  · rw [if_neg c1] at h1; exfalso; revert h1; (repeat' split) <;> simp

set_option maxHeartbeats 2000000 in
theorem UtfCut_walk (a0 : Int) (a1 : Int) (a2 : Option Addr) (len2 cap2 : Nat) (z2 : List Int) (w : World) (w0 : (Lit.int .i64 a0).wf = true) (w1 : (Lit.int .i64 a1).wf = true) (w2 : IsRow .u8 w a2 len2 cap2 z2) :
    Calls Try.prog 6 #[.int .i64 a0, .int .i64 a1, .slice a2 len2 cap2] w fun e w' => e = .returned (.bool true) ∧ Below w.heap.size w w' := by
  obtain ⟨l, rfl, h8⟩ := isRow8 w2
  have H8 := Lib.hid h8
  have n0 : -9223372036854775808 ≤ a0 ∧ a0 ≤ 9223372036854775807 := by simp [Lit.wf, IntKind.min, IntKind.max, IntKind.signed, IntKind.bits] at w0; omega
  have n1 : -9223372036854775808 ≤ a1 ∧ a1 ≤ 9223372036854775807 := by simp [Lit.wf, IntKind.min, IntKind.max, IntKind.signed, IntKind.bits] at w1; omega
  obtain ⟨n00, n01⟩ := n0
  obtain ⟨n10, n11⟩ := n1
  clear w0 w1 w2 h8
  by_cases hlen : 60 < l.length
  · go_enter Try.func6, Try.ntmps6
    go_wp2_with fail
    refine (awake_any _).mono ?_
    rintro e w1 ⟨rfl, hb⟩
    go_wp2
    go_ret
    exact ⟨rfl, hb⟩
  have hok := scalarN_ok a0
  have hfix := Lib.hid (fixR_of hok)
  have hel := encR_len (scalarN a0)
  have hone := Lib.hid (encR_one (scalarN a0) hok)
  have hcut := Lib.hid (next_cut (scalarN a0) hok)
  have hnx := Lib.hid (next_enc (scalarN a0) hok l)
  have hrb : 0 ≤ scalarN a0 ∧ scalarN a0 ≤ 1114111 := by unfold okR at hok; omega
  obtain ⟨hrb0, hrb1⟩ := hrb
  obtain ⟨hel1, hel4⟩ := hel
  clear hok
  generalize hE : encR (scalarN a0) = E at *
  have HE := Lib.hid hE
  clear hE
  go_enter Try.func6, Try.ntmps6
  go_wp2_with fail
  refine (scalar_any _ _ n00 n01).mono ?_
  rintro e w1 ⟨rfl, rfl⟩
  generalize scalarN a0 = r at *
  go_wp2_with fail
  refine (encode_any _ [r] _ (lit32 _ _ _ 1 21 (by rw [heap_alloc_at, if_pos (by simp)]; rfl) rfl (by decide)) (by simp) (by intro i hi; match i, hi with | 0, _ => exact ⟨by show _ ≤ r; omega, by show r ≤ _; omega⟩)).mono ?_
  rintro e w2 ⟨v2, rfl, hown2, hb2⟩
  have hEr : encL [r] = E := by show encR (fixR r) ++ [] = E; rw [hfix.out, HE.out, List.append_nil]
  rw [hEr] at hown2
  obtain ⟨a3, cap3, rfl, hc31, hc32, hc33, hc34⟩ := hown2.is8
  have hb2' := ext_trans (ext_alloc w _) hb2
  have HO2 := Lib.hid hown2
  have HB2 := Lib.hid hb2'
  have HC3 := Lib.hid hc34
  clear hown2 hb2 hb2' hc33 hc34 hEr
  unfold maxLen at hc32
  go_wp2_with (at_builtin; refine wpList_appS _ rfl _ _ 22 rfl w2.heap.size 5 (.int .u8 0) 1 ok8 _ _ rfl (Own.nil _ _ _) _ _ _ rfl HO2.out.is8 ?c1 ?c2 ?c3 ?c4 ?_)
  case c1 => intro i hi; rfl
  case c2 => simp; omega
  case c3 => simp; omega
  case c4 => exact Nat.le_refl _
  intro v3 w3 hown3 hgr3
  rw [u8At_range] at hown3
  try rw [List.nil_append] at hown3
  have hb3 : Below w2.heap.size w2 w3 := (Below.refl _ _).grown hgr3 (Nat.le_refl _) (fun k hk => by simp [Value.ownBlock] at hk)
  have HO3 := Lib.hid hown3
  have HB3 := Lib.hid hb3
  have hz3 := hb3.size
  clear hown3 hb3
  go_wp2_with (at_builtin; refine wpList_appS _ rfl _ _ 22 rfl w2.heap.size 5 (.int .u8 0) 1 ok8 _ _ rfl HO3.out _ _ _ rfl (H8.out.below (ext_trans HB2.out HB3.out)) ?c1 ?c2 ?c3 ?c4 ?_)
  case c1 => intro i hi; rfl
  case c2 => simp; omega
  case c3 => simp; omega
  case c4 => exact hz3
  intro v4 w4 hown4 hgr4
  rw [u8At_range, ← List.map_append] at hown4
  have hb4 : Below w2.heap.size w2 w4 := HB3.out.grown hgr4 hz3 (fun k hk => (HO3.out.row k hk).1)
  have HO4 := Lib.hid hown4
  have HB4 := Lib.hid (ext_trans HB2.out hb4)
  have HB4' := Lib.hid hb4
  clear hown4 hb4
  go_wp2_with fail
  refine (next_any _ (E ++ l) _ HO4.out.is8 (by simp; omega)).mono ?_
  rintro e w5 ⟨rfl, k5, rfl⟩
  rw [hnx.out]
  by_cases hE1 : E.length = 1
  · have hr128 := hone.out hE1
    have hE1' := Lib.hid hE1
    rw [hE1]
    go_wp2_with fail
    refine (awake_any _).mono ?_
    rintro e w9 ⟨rfl, hb⟩
    go_wp2
    go_ret
    exact ⟨rfl, ext_trans (ext_trans HB4.out (ext_drew _ _)) hb⟩
  · have hne : ((E.length : Int) == 1) = false := by rw [beq_eq_false_iff_ne]; omega
    go_wp2_with fail
    refine (low_any _ _ _ n10 n11 (by omega) (by omega)).mono ?_
    rintro e w9 ⟨rfl, rfl⟩
    have hl1 := lowN_bd a1 (E.length - 1) (by omega)
    obtain ⟨hl10, hl11⟩ := hl1
    obtain ⟨m, hm⟩ : ∃ m : Nat, lowN a1 (E.length - 1) = m := ⟨(lowN a1 (E.length - 1)).toNat, by omega⟩
    rw [hm] at hl11
    rw [hm]
    clear hl10
    clear hm
    have hm3 : (m : Int) ≤ 3 := by omega
    have hm0 : (0 : Int) ≤ (m : Int) := by omega
    obtain ⟨b3, off3, rfl, hc3⟩ := HC3.out (by omega)
    have hq1 : (1 : Int) + m ≤ E.length := by omega
    have hq2 : (1 : Int) + m ≤ cap3 := by omega
    have hcn := Lib.hid (hcut.out (1 + m) (by omega) (by omega))
    have HI : Hid (Is8 (w4.drewN k5) (.slice (some ⟨b3, off3, none⟩) (1 + m) cap3) (E.take (1 + m))) := Lib.hid (by
      refine ⟨_, _, by rw [List.length_take, Nat.min_eq_left (by omega)], by simp; omega, by unfold maxLen; omega, (fun h => by cases h), fun _ => ⟨b3, off3, rfl, ?_⟩⟩
      have hcw : Cells w4 b3 off3 E.length (u8At E) := hc3.below HB4'.out (hc3.lt (by omega))
      intro i hi
      rw [List.length_take] at hi
      have := hcw i (by omega)
      show w4.cell? _ = _
      rw [this]
      simp [u8At, byt, List.getD, List.getElem?_take, show i < 1 + m by omega])
    clear hc3
    go_wp2_with fail
    refine (next_any _ (E.take (1 + m)) _ HI.out (by simp; omega)).mono ?_
    rintro e w6 ⟨rfl, k6, rfl⟩
    rw [hcn.out]
    go_wp2_with fail
    refine (awake_any _).mono ?_
    rintro e w9 ⟨rfl, hb⟩
    go_wp2
    go_ret
    exact ⟨rfl, ext_trans (ext_trans HB4.out (ext_drew _ _)) hb⟩
end Go.Proofs.Ytknfgpphfedbmaa
