import Derived.Lib.AppendIntMem
import Derived.Lib.EndianBits
import Derived.Test.YtaphadmcjimmeaaDoorHb10
import Derived.Test.YtaphadmcjimmeaaDoorHb12
import Derived.Test.YtaphadmcjimmeaaDoorHb15
set_option linter.unusedVariables false
set_option linter.unusedSimpArgs false
set_option maxRecDepth 100000
namespace Go.Proofs.YtaphadmcjimmeaaDoor
open Go.RowKit
theorem wraps_u32b (n : Int) (h0 : 0 ≤ n) (h1 : n < 2 ^ 32) : IntKind.u32.wrap n = n := by
  simp [IntKind.wrap, IntKind.bits, IntKind.signed]; omega
theorem u32_and8 (x : Int) (h0 : 0 ≤ x) (h1 : x < 4294967296) : bits .and .u32 x 255 = x % 256 := bits_mask .u32 32 (by decide) wraps_u32b 8 (by decide) x h0 h1
def Tab (w : World) : Prop := Lib.TabIs Tryd.prog w "internal/strconv.uint64pow10" .u64 Lib.pow10Tab
theorem Tab.below {w w' : World} (h : Tab w) (hb : Below w.heap.size w w') : Tab w' := Lib.tabBelow_of_tabIs h w' hb
set_option maxHeartbeats 1000000 in
theorem appU_any (B u : Nat) (hu : u < 18446744073709551616) (v : Value) (l : List UInt8) (w : World) (hown : Own w B 5 v (l.map u8V)) (hB : B ≤ w.heap.size) (hl : l.length ≤ 1000000) (htab : Tab w) :
    Calls Tryd.prog 30 #[v, .int .u64 u, .int .i64 10] w fun e w' => ∃ v', e = .returned v' ∧ Own w' B 5 v' ((l ++ Lib.decDigits u).map u8V) ∧ Below B w w' := by
  have hlen : (l.map u8V).length = l.length := by simp
  have HC := Lib.hid (Tryd.internal_strconv_AppendUint_10 B (l.map u8V).length u hu v (l.map u8V) w hown hB (by omega) htab)
  clear hown htab hlen
  go_enter Tryd.func30, Tryd.ntmps30
  go_wp2_with fail
  refine HC.out.mono ?_
  rintro e w' ⟨v', rfl, h2, h3, -⟩
  have e1 : (l ++ Lib.decDigits u).map u8V = l.map u8V ++ Lib.byteCells (Lib.decDigits u) := by rw [List.map_append]; rfl
  have h4 : Own w' B 5 v' ((l ++ Lib.decDigits u).map u8V) := by
    unfold Own
    rw [e1, List.length_append, show (Lib.byteCells (Lib.decDigits u)).length = (Lib.decDigits u).length from List.length_map _]
    exact h2
  have H4 := Lib.hid h4
  have H3 := Lib.hid h3
  clear h2 h3 h4 e1
  go_wp2_with fail
  go_ret
  exact ⟨v', rfl, H4.out, H3.out⟩
def q0 (n : Nat) : Nat := n / 16777216
def q1 (n : Nat) : Nat := n / 65536 % 256
def q2 (n : Nat) : Nat := n / 256 % 256
def q3 (n : Nat) : Nat := n % 256
def showL (n : Nat) : List UInt8 := Lib.decDigits (q0 n) ++ [46] ++ Lib.decDigits (q1 n) ++ [46] ++ Lib.decDigits (q2 n) ++ [46] ++ Lib.decDigits (q3 n)
def showK (n k : Nat) : List UInt8 :=
  if k = 0 then [] else if k = 1 then Lib.decDigits (q0 n) else if k = 2 then Lib.decDigits (q0 n) ++ [46] ++ Lib.decDigits (q1 n)
  else if k = 3 then Lib.decDigits (q0 n) ++ [46] ++ Lib.decDigits (q1 n) ++ [46] ++ Lib.decDigits (q2 n) else showL n
theorem showK_len (n k : Nat) (hn : n < 4294967296) : (showK n k).length ≤ 1000 := by
  have l0 := dec_len20 (q0 n) (by unfold q0; omega)
  have l1 := dec_len20 (q1 n) (by unfold q1; omega)
  have l2 := dec_len20 (q2 n) (by unfold q2; omega)
  have l3 := dec_len20 (q3 n) (by unfold q3; omega)
  unfold showK showL
  (repeat' split) <;> simp <;> omega
set_option maxHeartbeats 4000000 in
theorem Show_any (n : Nat) (w : World) (hn : n < 4294967296) (htab : Tab w) :
    Calls Tryd.prog 14 #[.int .u32 n] w fun e w' => e = .returned (.string ⟨(showL n).toArray⟩) ∧ Below w.heap.size w w' := by
  have n0 : (0 : Int) ≤ (n : Int) := by omega
  have n1 : (n : Int) < 4294967296 := by omega
  have HT := Lib.hid htab
  clear htab
  have e0 : ((q0 n : Nat) : Int) = (n : Int) / 16777216 := by unfold q0; omega
  have e1 : ((q1 n : Nat) : Int) = (n : Int) / 65536 % 256 := by unfold q1; omega
  have e2 : ((q2 n : Nat) : Int) = (n : Int) / 256 % 256 := by unfold q2; omega
  have e3 : ((q3 n : Nat) : Int) = (n : Int) % 256 := by unfold q3; omega
  have m0 : q0 n < 18446744073709551616 := by omega
  have m1 : q1 n < 18446744073709551616 := by omega
  have m2 : q2 n < 18446744073709551616 := by omega
  have m3 : q3 n < 18446744073709551616 := by omega
  have E := Lib.hid (And.intro e0 (And.intro e1 (And.intro e2 e3)))
  clear e0 e1 e2 e3
  have b0 : bits .and .u32 ((n : Int) / 16777216) 255 = (n : Int) / 16777216 := by rw [u32_and8 _ (by omega) (by omega)]; omega
  have b1 : bits .and .u32 ((n : Int) / 65536) 255 = (n : Int) / 65536 % 256 := u32_and8 _ (by omega) (by omega)
  have b2 : bits .and .u32 ((n : Int) / 256) 255 = (n : Int) / 256 % 256 := u32_and8 _ (by omega) (by omega)
  have b3 : bits .and .u32 (n : Int) 255 = (n : Int) % 256 := u32_and8 _ (by omega) (by omega)
  have HK := Lib.hid (fun k => showK_len n k hn)
  have HA0 : Hid (∀ (v : Value) (w1 : World), Own w1 w.heap.size 5 v ((showK n 0).map u8V) → Below w.heap.size w w1 → Calls Tryd.prog 30 #[v, .int .u64 ((n : Int) / 16777216), .int .i64 10] w1 fun e w' => ∃ v', e = .returned v' ∧ Own w' w.heap.size 5 v' ((showK n 1).map u8V) ∧ Below w.heap.size w w') := Lib.hid (fun v w1 ho hb => by
    rw [← E.out.1]
    refine (appU_any w.heap.size (q0 n) m0 v (showK n 0) w1 ho hb.size (by have := HK.out 0; simp; omega) (HT.out.below hb)).mono ?_
    rintro e w' ⟨v', h1, h2, h3⟩
    exact ⟨v', h1, (congrArg (fun (l : List UInt8) => Own w' w.heap.size 5 v' (l.map u8V)) (by simp [showK, showL])).mp h2, hb.trans h3⟩)
  have HA1 : Hid (∀ (v : Value) (w1 : World), Own w1 w.heap.size 5 v ((showK n 1 ++ [46]).map u8V) → Below w.heap.size w w1 → Calls Tryd.prog 30 #[v, .int .u64 ((n : Int) / 65536 % 256), .int .i64 10] w1 fun e w' => ∃ v', e = .returned v' ∧ Own w' w.heap.size 5 v' ((showK n 2).map u8V) ∧ Below w.heap.size w w') := Lib.hid (fun v w1 ho hb => by
    rw [← E.out.2.1]
    refine (appU_any w.heap.size (q1 n) m1 v (showK n 1 ++ [46]) w1 ho hb.size (by have := HK.out 1; simp; omega) (HT.out.below hb)).mono ?_
    rintro e w' ⟨v', h1, h2, h3⟩
    exact ⟨v', h1, (congrArg (fun (l : List UInt8) => Own w' w.heap.size 5 v' (l.map u8V)) (by simp [showK, showL])).mp h2, hb.trans h3⟩)
  have HA2 : Hid (∀ (v : Value) (w1 : World), Own w1 w.heap.size 5 v ((showK n 2 ++ [46]).map u8V) → Below w.heap.size w w1 → Calls Tryd.prog 30 #[v, .int .u64 ((n : Int) / 256 % 256), .int .i64 10] w1 fun e w' => ∃ v', e = .returned v' ∧ Own w' w.heap.size 5 v' ((showK n 3).map u8V) ∧ Below w.heap.size w w') := Lib.hid (fun v w1 ho hb => by
    rw [← E.out.2.2.1]
    refine (appU_any w.heap.size (q2 n) m2 v (showK n 2 ++ [46]) w1 ho hb.size (by have := HK.out 2; simp; omega) (HT.out.below hb)).mono ?_
    rintro e w' ⟨v', h1, h2, h3⟩
    exact ⟨v', h1, (congrArg (fun (l : List UInt8) => Own w' w.heap.size 5 v' (l.map u8V)) (by simp [showK, showL])).mp h2, hb.trans h3⟩)
  have HA3 : Hid (∀ (v : Value) (w1 : World), Own w1 w.heap.size 5 v ((showK n 3 ++ [46]).map u8V) → Below w.heap.size w w1 → Calls Tryd.prog 30 #[v, .int .u64 ((n : Int) % 256), .int .i64 10] w1 fun e w' => ∃ v', e = .returned v' ∧ Own w' w.heap.size 5 v' ((showK n 4).map u8V) ∧ Below w.heap.size w w') := Lib.hid (fun v w1 ho hb => by
    rw [← E.out.2.2.2]
    refine (appU_any w.heap.size (q3 n) m3 v (showK n 3 ++ [46]) w1 ho hb.size (by have := HK.out 3; simp; omega) (HT.out.below hb)).mono ?_
    rintro e w' ⟨v', h1, h2, h3⟩
    exact ⟨v', h1, (congrArg (fun (l : List UInt8) => Own w' w.heap.size 5 v' (l.map u8V)) (by simp [showK, showL])).mp h2, hb.trans h3⟩)
  go_enter Tryd.func14, Tryd.ntmps14
  go_wp2_with (refine wpList_make0 w rfl _ _ 44 rfl w.heap.size 5 (.int .u8 0) 1 ok8 _ _ _ 15 rfl rfl rfl (by decide) (by decide) (Nat.le_refl _) ?_)
  intro w1 hown1 hgr1
  have HB1 : Hid (Below w.heap.size w w1) := Lib.hid ((Below.refl _ _).grown hgr1 (Nat.le_refl _) (fun k hk => by cases hk))
  have HO1 := Lib.hid hown1
  clear hown1 hgr1
  go_wp2_with fail
  go_loopw [3, 4] (fun tv ts wr => ∃ (k : Nat), (k = 0 ∧ ts = .int .i64 24 ∨ k = 1 ∧ ts = .int .i64 16 ∨ k = 2 ∧ ts = .int .i64 8 ∨ k = 3 ∧ ts = .int .i64 0 ∨ k = 4 ∧ ts = .int .i64 (-8)) ∧ Own wr w.heap.size 5 tv ((showK n k).map u8V) ∧ Below w.heap.size w wr) (fun _ ts _ => (intOf ts + 8).toNat)
  case atStart => exact ⟨0, .inl ⟨rfl, rfl⟩, HO1.out, HB1.out⟩
  case round =>
    obtain ⟨k, hk, hown, hbel⟩ := hrel
    rcases hk with ⟨rfl, rfl⟩ | ⟨rfl, rfl⟩ | ⟨rfl, rfl⟩ | ⟨rfl, rfl⟩ | ⟨rfl, rfl⟩
    · have HO := Lib.hid hown
      have HB := Lib.hid hbel
      have hsz := hbel.size
      clear hown hbel
      go_wp2_with fail
      refine (HA0.out _ _ HO.out HB.out).mono ?_
      rintro e w3 ⟨v3, rfl, hown3, hb3⟩
      have HO3 := Lib.hid hown3
      have HB3 := Lib.hid hb3
      clear hown3 hb3
      go_wp2_with fail
      exact ⟨⟨1, .inr (.inl ⟨rfl, by first | rfl | go_num⟩), HO3.out, HB3.out⟩, by simp [intOf]⟩
    · have HO := Lib.hid hown
      have HB := Lib.hid hbel
      have hsz := hbel.size
      clear hown hbel
      have hc1 : ∀ u ∈ (#[Value.int .u8 46] : Array Value).toList, u.oneCell' = true := by intro u hu; simp at hu; subst hu; rfl
      have hkl := HK.out 1
      have hc2 : (((showK n 1).map u8V).length + 1) * 1 ≤ 140737488355328 := by simp; omega
      have hc3 : ((showK n 1).map u8V).length + 1 ≤ 9223372036854775807 := by simp; omega
      go_wp2_with (at_builtin; refine wpList_appL _ rfl _ _ 44 rfl w.heap.size 5 (.int .u8 0) 1 ok8 _ _ rfl HO.out #[.int .u8 46] 1 1 rfl rfl hc1 hc2 hc3 hsz ?_)
      intro v2 w2 hown2 hgr2
      have HB2 : Hid (Below w.heap.size w w2) := Lib.hid (HB.out.grown hgr2 hsz (fun k hk => (HO.out.row k hk).1))
      have HO2 : Hid (Own w2 w.heap.size 5 v2 ((showK n 1 ++ [46]).map u8V)) := Lib.hid (by rw [List.map_append]; exact hown2)
      clear hown2 hgr2
      go_wp2_with fail
      refine (HA1.out _ _ HO2.out HB2.out).mono ?_
      rintro e w3 ⟨v3, rfl, hown3, hb3⟩
      have HO3 := Lib.hid hown3
      have HB3 := Lib.hid hb3
      clear hown3 hb3
      go_wp2_with fail
      exact ⟨⟨2, .inr (.inr (.inl ⟨rfl, by first | rfl | go_num⟩)), HO3.out, HB3.out⟩, by simp [intOf]⟩
    · have HO := Lib.hid hown
      have HB := Lib.hid hbel
      have hsz := hbel.size
      clear hown hbel
      have hc1 : ∀ u ∈ (#[Value.int .u8 46] : Array Value).toList, u.oneCell' = true := by intro u hu; simp at hu; subst hu; rfl
      have hkl := HK.out 2
      have hc2 : (((showK n 2).map u8V).length + 1) * 1 ≤ 140737488355328 := by simp; omega
      have hc3 : ((showK n 2).map u8V).length + 1 ≤ 9223372036854775807 := by simp; omega
      go_wp2_with (at_builtin; refine wpList_appL _ rfl _ _ 44 rfl w.heap.size 5 (.int .u8 0) 1 ok8 _ _ rfl HO.out #[.int .u8 46] 1 1 rfl rfl hc1 hc2 hc3 hsz ?_)
      intro v2 w2 hown2 hgr2
      have HB2 : Hid (Below w.heap.size w w2) := Lib.hid (HB.out.grown hgr2 hsz (fun k hk => (HO.out.row k hk).1))
      have HO2 : Hid (Own w2 w.heap.size 5 v2 ((showK n 2 ++ [46]).map u8V)) := Lib.hid (by rw [List.map_append]; exact hown2)
      clear hown2 hgr2
      go_wp2_with fail
      refine (HA2.out _ _ HO2.out HB2.out).mono ?_
      rintro e w3 ⟨v3, rfl, hown3, hb3⟩
      have HO3 := Lib.hid hown3
      have HB3 := Lib.hid hb3
      clear hown3 hb3
      go_wp2_with fail
      exact ⟨⟨3, .inr (.inr (.inr (.inl ⟨rfl, by first | rfl | go_num⟩))), HO3.out, HB3.out⟩, by simp [intOf]⟩
    · have HO := Lib.hid hown
      have HB := Lib.hid hbel
      have hsz := hbel.size
      clear hown hbel
      have hc1 : ∀ u ∈ (#[Value.int .u8 46] : Array Value).toList, u.oneCell' = true := by intro u hu; simp at hu; subst hu; rfl
      have hkl := HK.out 3
      have hc2 : (((showK n 3).map u8V).length + 1) * 1 ≤ 140737488355328 := by simp; omega
      have hc3 : ((showK n 3).map u8V).length + 1 ≤ 9223372036854775807 := by simp; omega
      go_wp2_with (at_builtin; refine wpList_appL _ rfl _ _ 44 rfl w.heap.size 5 (.int .u8 0) 1 ok8 _ _ rfl HO.out #[.int .u8 46] 1 1 rfl rfl hc1 hc2 hc3 hsz ?_)
      intro v2 w2 hown2 hgr2
      have HB2 : Hid (Below w.heap.size w w2) := Lib.hid (HB.out.grown hgr2 hsz (fun k hk => (HO.out.row k hk).1))
      have HO2 : Hid (Own w2 w.heap.size 5 v2 ((showK n 3 ++ [46]).map u8V)) := Lib.hid (by rw [List.map_append]; exact hown2)
      clear hown2 hgr2
      go_wp2_with fail
      refine (HA3.out _ _ HO2.out HB2.out).mono ?_
      rintro e w3 ⟨v3, rfl, hown3, hb3⟩
      have HO3 := Lib.hid hown3
      have HB3 := Lib.hid hb3
      clear hown3 hb3
      go_wp2_with fail
      exact ⟨⟨4, .inr (.inr (.inr (.inr (⟨rfl, by first | rfl | go_num⟩)))), HO3.out, HB3.out⟩, by simp [intOf]⟩
    · have H8 := Lib.hid hown.is8
      have HB := Lib.hid hbel
      clear hown hbel
      go_wp2_with (refine wpList_toStr _ (by rfl) _ _ _ rfl 5 Tryd.underlying44 Tryd.underlying5 Tryd.underlying9 _ rfl _ H8.out ?_)
      go_ret
      exact ⟨rfl, HB.out⟩
end Go.Proofs.YtaphadmcjimmeaaDoor
