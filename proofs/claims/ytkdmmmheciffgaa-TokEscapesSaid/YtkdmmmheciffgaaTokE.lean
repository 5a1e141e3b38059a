/- The contract of jtok's escape. -/
import Derived.Test.YtkdmmmheciffgaaTokD
import Derived.Test.YtkdmmmheciffgaaUtfE
set_option linter.unusedVariables false
set_option linter.unusedSimpArgs false
namespace Go.Proofs.Ytkdmmmheciffgaa
open Go.RowKit

theorem escM_u {b : List UInt8} {i : Nat} (h : byt b (i + 1) = 117) (u : Int) (p : Nat) (ok : Bool) (hR : hexM b 4 (i + 2) 0 = (u, p, ok)) :
    escM b i = (if ok = true then encR (fixR (pointM b u p).1) else [], (pointM b u p).2, ok) := by
  unfold escM
  rw [if_pos h, hR]
  cases ok with
  | true => rfl
  | false =>
    have h0 := hexM_zero b 4 (i + 2) 0 (by rw [hR])
    rw [hR] at h0
    have h0 : u = 0 := h0
    subst h0
    rw [pointM_no (.inl (show (0 : Int) < 55296 by decide))]; rfl
theorem tupVB {v : Value} {c c' : Bool} (h : c = c') : Ending.returned (.tuple #[v, .bool c]) = .returned (.tuple #[v, .bool c']) := by rw [h]
set_option maxRecDepth 100000 in
set_option maxHeartbeats 4000000 in
theorem escape_any (g : Nat) (vb : Value) (b : List UInt8) (i : Nat) (keep : Bool) (n : Int) (vt : Value) (w : World) (hs : Scan w g vb i keep n vt) (ht : Text w g vb b) (hi : i < b.length) :
    Calls Try.prog 54 #[.pointer (some ⟨g, 0, none⟩)] w fun e w' => ∃ v', e = .returned (.tuple #[v', .bool (escM b i).2.2]) ∧ ((escM b i).2.2 = true → Own w' w.heap.size 5 v' ((escM b i).1.map u8V)) ∧ Scan w' g vb (escM b i).2.1 keep n vt ∧ w.grownBy w' (some g) := by
  have hm := ht.le
  have HT := Lib.hid ht
  have HS := Lib.hid hs
  have c0 : w.cell? ⟨g, 0, none⟩ = some vb := by rw [hs.cell]; rfl
  have c1 : w.cell? ⟨g, 1, none⟩ = some (.int .i64 i) := by rw [hs.cell]; rfl
  have fz : w.frozen? ⟨g, 1, none⟩ = false := hs.frozen 1
  have HT1 := Lib.hid (ht.grown (grown_to0 (grown_refl w (some g)) 1 (.int .i64 ((i : Int) + 1))))
  have HG1 := Lib.hid (grown_to0 (grown_refl w (some g)) 1 (.int .i64 ((i : Int) + 1)))
  have HS1 := Lib.hid (hs.to0 (i + 1) ((i : Int) + 1) (by omega))
  have HQ := Lib.hid (here_q vb b _ HT1.out.is hm)
  have t1 : ((i : Int) + 1).toNat = i + 1 := by omega
  have b0 := byt_lo b (i + 1)
  have b1 := byt_hi b (i + 1)
  clear hs ht
  by_cases hu : byt b (i + 1) = 117
  · have g1 : (byt b (i + 1) == 117) = true := by rw [hu]; rfl
    have hl := byt_lt hu (by decide)
    have HU := Lib.hid (fun w' (hs' : Scan w' g vb (i + 2) keep n vt) (ht' : Text w' g vb b) => unit_any g vb b (i + 2) keep n vt w' hs' ht' (by omega))
    obtain ⟨v0, v1⟩ := hexM_val b 4 (i + 2) 0 (by decide)
    have hqb := hexM_bd b 4 (i + 2) 0 (by omega)
    have HES := Lib.hid (escM_u hu)
    obtain ⟨R, hR⟩ : ∃ R, hexM b 4 (i + 2) 0 = R := ⟨_, rfl⟩
    rw [hR] at HU v0 v1 hqb HES
    clear hR
    obtain ⟨u, p, ok⟩ := R
    have v0 : 0 ≤ u := v0
    have v1 : u < 65536 := by have : u < (0 + 1) * 16 ^ 4 := v1; omega
    have hpb : p ≤ b.length := hqb.2
    have HU2 : Hid (∀ w', Scan w' g vb (i + 2) keep n vt → Text w' g vb b → Calls Try.prog 57 #[.pointer (some ⟨g, 0, none⟩)] w' fun e w'' => e = .returned (.tuple #[.int .i32 u, .bool ok]) ∧ Scan w'' g vb p keep n vt ∧ w'.grownBy w'' (some g)) := Lib.hid HU.out
    have HE2 := Lib.hid (HES.out u p ok rfl)
    have HPT := Lib.hid (fun w' hs' ht' => point_any g vb b p u keep n vt w' hs' ht' hpb v0 v1)
    have hptb : 0 ≤ (pointM b u p).1 ∧ (pointM b u p).1 ≤ 1114111 := by
      unfold pointM
      split
      · rename_i hc
        have h2 := of_decide_eq_true hc.2.2
        show 0 ≤ 65536 + (u - 55296) * 1024 + ((hexM b 4 (p + 2) 0).1 - 56320) ∧ _ ≤ _
        omega
      · show 0 ≤ u ∧ u ≤ _; omega
    obtain ⟨pt, hpt⟩ : ∃ pt, pointM b u p = pt := ⟨_, rfl⟩
    rw [hpt] at HE2 HPT hptb
    clear hpt HU HES hqb hu
    obtain ⟨r, q⟩ := pt
    have hptb : 0 ≤ r ∧ r ≤ 1114111 := hptb
    have HPT2 : Hid (∀ w', Scan w' g vb p keep n vt → Text w' g vb b → Calls Try.prog 59 #[.pointer (some ⟨g, 0, none⟩), .int .i32 u] w' fun e w'' => e = .returned (.int .i32 r) ∧ Scan w'' g vb q keep n vt ∧ w'.grownBy w'' (some g)) := Lib.hid HPT.out
    have HE3 : Hid (escM b i = (if ok = true then encR (fixR r) else [], q, ok)) := Lib.hid HE2.out
    obtain ⟨r0, r1⟩ := hptb
    clear HPT HE2 v0 v1
    go_enter Try.func54, Try.ntmps54
    go_wp2_with fail
    go_quiet ((go_at_call 35; exact Calls.quiet_of_same (HQ.out _ (by omega) (by omega) _)))
    go_wp2_with fail
    refine (HU2.out _ (HS1.out.to _ (i + 2) _ (by omega)) (HT1.out.grown (grown_to (grown_refl _ _) _ 1 _))).mono ?_
    rintro e x1 ⟨rfl, hs2, hg2⟩
    have HS2 := Lib.hid hs2
    have HG2 := Lib.hid (grownBy_trans (grownBy_trans HG1.out (grown_to (grown_refl _ (some g)) _ 1 _)) hg2)
    have HT2 := Lib.hid (HT.out.grown HG2.out)
    clear hs2 hg2
    go_wp2_with fail
    refine (HPT2.out _ HS2.out HT2.out).mono ?_
    rintro e x2 ⟨rfl, hs3, hg3⟩
    have HS3 := Lib.hid hs3
    have HG3 := Lib.hid (grownBy_trans HG2.out hg3)
    clear hs3 hg3
    have H32 := Lib.hid (lit32 (x2.alloc (.cells #[.int .i32 r] 21)) x2.heap.size [r] 1 21 (by rw [heap_alloc_at, if_pos rfl]; rfl) rfl (by decide))
    go_wp2_with fail
    refine (encode_any _ [r] _ H32.out (by simp) (fun k hk => by
      have : k = 0 := by simpa using hk
      subst this
      show -2147483648 ≤ r ∧ r ≤ 2147483647
      omega)).mono ?_
    rintro e x3 ⟨v3, rfl, hown3, hb3⟩
    have HB3 := Lib.hid (ext_trans (ext_alloc x2 _) hb3)
    have HO3 := Lib.hid (Own.base hown3 (show w.heap.size ≤ _ by have := HG3.out.size; simp; omega))
    clear hown3 hb3
    go_wp2_with fail
    go_ret2
    refine ⟨v3, tupVB (by rw [HE3.out]), fun hok => ?_, ?_, ?_⟩
    · rw [HE3.out] at hok ⊢
      have hok : ok = true := hok
      subst hok
      have e1 : encL [r] = encR (fixR r) := by simp [encL]
      rw [e1] at HO3
      exact HO3.out
    · rw [HE3.out]; exact HS3.out.below HB3.out (Box.lt HS3.out)
    · exact grownBy_trans HG3.out (grownBy_below HB3.out _)
  · have g1 : (byt b (i + 1) == 117) = false := by simpa using hu
    have HSH := Lib.hid (short_any (byt b (i + 1)) · b0 b1)
    have hsb := shortN_bd (byt b (i + 1))
    have HE : Hid (escM b i = if shortN (byt b (i + 1)) = 0 then ([], i + 1, false) else ([mkB (shortN (byt b (i + 1)))], i + 2, true)) := Lib.hid (by unfold escM; rw [if_neg hu])
    have HLL : Hid (shortN (byt b (i + 1)) ≠ 0 → i + 1 < b.length) := Lib.hid (fun h3 => by
      rcases Nat.lt_or_ge (i + 1) b.length with h4 | h4
      · exact h4
      · rw [byt_over h4] at h3; exact absurd (by decide) h3)
    obtain ⟨c, hc⟩ : ∃ c, shortN (byt b (i + 1)) = c := ⟨_, rfl⟩
    rw [hc] at HSH HE HLL hsb
    obtain ⟨s0, s1⟩ := hsb
    clear hc hu
    by_cases hz : c = 0
    · have HE3 : Hid (escM b i = ([], i + 1, false)) := Lib.hid (by rw [HE.out, if_pos hz])
      subst hz
      go_enter Try.func54, Try.ntmps54
      go_wp2_with fail
      go_quiet ((go_at_call 35; exact Calls.quiet_of_same (HQ.out _ (by omega) (by omega) _)))
      go_wp2_with fail
      refine (HSH.out _).mono ?_
      rintro e w' ⟨rfl, rfl⟩
      go_wp2_with fail
      go_ret2
      exact ⟨.slice none 0 0, tupVB (by rw [HE3.out]), (fun h => by rw [HE3.out] at h; cases h), by rw [HE3.out]; exact Box.drew HS1.out _, grownBy_trans HG1.out (grownBy_drew _ _ _)⟩
    · have HE3 : Hid (escM b i = ([mkB c], i + 2, true)) := Lib.hid (by rw [HE.out, if_neg hz])
      have z1 : (c == 0) = false := by simpa using hz
      have hl := HLL.out hz
      clear hz
      go_enter Try.func54, Try.ntmps54
      go_wp2_with fail
      go_quiet ((go_at_call 35; exact Calls.quiet_of_same (HQ.out _ (by omega) (by omega) _)))
      go_wp2_with fail
      refine (HSH.out _).mono ?_
      rintro e w' ⟨rfl, rfl⟩
      go_wp2_with fail
      go_ret2
      have HOW := Lib.hid (fun (W : World) (hW : w.heap.size ≤ W.heap.size) => Own.lit W w.heap.size 5 #[.int .u8 c] 1 rfl hW (by decide))
      have HGW := Lib.hid (fun k x => grown_to HG1.out k 1 x)
      refine ⟨.slice (some ⟨_, 0, none⟩) 1 1, tupVB (by rw [HE3.out]), fun _ => ?_, ?_, ?_⟩
      rotate_left
      · rw [HE3.out]; exact Box.alloc (HS1.out.to _ (i + 2) _ (by omega)) _
      · exact grownBy_trans (HGW.out _ _) (grownBy_none (World.grownBy_alloc _ _ none))
      · rw [HE3.out]
        have e1 : [mkB c].map u8V = [Value.int .u8 c] := by simp [u8V_mk s0 s1]
        show Own _ _ _ _ ([mkB c].map u8V)
        rw [e1]
        simpa using HOW.out _ (HGW.out _ _).size
end Go.Proofs.Ytkdmmmheciffgaa
