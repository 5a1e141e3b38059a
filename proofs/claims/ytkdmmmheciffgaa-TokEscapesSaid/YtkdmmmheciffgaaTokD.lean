/- Contracts of jtok's scanner: point, short. -/
import Derived.Test.YtkdmmmheciffgaaTokC
set_option linter.unusedVariables false
set_option linter.unusedSimpArgs false
namespace Go.Proofs.Ytkdmmmheciffgaa
open Go.RowKit

theorem ret_i32 {a b : Int} (h : a = b) : Ending.returned (.int .i32 a) = .returned (.int .i32 b) := by rw [h]
theorem ret_u8 {a b : Int} (h : a = b) : Ending.returned (.int .u8 a) = .returned (.int .u8 b) := by rw [h]
theorem Scan.to0 {w : World} {g : Nat} {vb vt : Value} {i : Nat} {keep : Bool} {n : Int} (h : Scan w g vb i keep n vt) (j : Nat) (x : Int) (hx : x = (j : Int)) : Scan (w.setCell ⟨g, 1, none⟩ (.int .i64 x)) g vb j keep n vt := by
  subst hx
  exact Box.set h 1 (by simp) _
theorem grown_to0 {w wr : World} {g : Nat} (h : w.grownBy wr (some g)) (i : Nat) (v : Value) : w.grownBy (wr.setCell ⟨g, i, none⟩ v) (some g) :=
  grownBy_trans h (grownBy_set _ g i v)
set_option maxRecDepth 100000 in
set_option maxHeartbeats 4000000 in
theorem point_any (g : Nat) (vb : Value) (b : List UInt8) (p : Nat) (u : Int) (keep : Bool) (n : Int) (vt : Value) (w : World) (hs : Scan w g vb p keep n vt) (ht : Text w g vb b) (hp : p ≤ b.length) (u0 : 0 ≤ u) (u1 : u < 65536) :
    Calls Try.prog 59 #[.pointer (some ⟨g, 0, none⟩), .int .i32 u] w fun e w' => e = .returned (.int .i32 (pointM b u p).1) ∧ Scan w' g vb (pointM b u p).2 keep n vt ∧ w.grownBy w' (some g) := by
  have hm := ht.le
  have HT := Lib.hid ht
  have HS := Lib.hid hs
  have c0 : w.cell? ⟨g, 0, none⟩ = some vb := by rw [hs.cell]; rfl
  have c1 : w.cell? ⟨g, 1, none⟩ = some (.int .i64 p) := by rw [hs.cell]; rfl
  have fz : w.frozen? ⟨g, 1, none⟩ = false := hs.frozen 1
  have HQ := Lib.hid (here_q vb b w ht.is hm)
  have HNO := Lib.hid (@pointM_no b u p)
  have HYE := Lib.hid (@pointM_yes b u p)
  have t0 : ((p : Int)).toNat = p := by omega
  have t1 : ((p : Int) + 1).toNat = p + 1 := by omega
  have HLB : Hid (lowB b p = decide (byt b p = 92 ∧ byt b (p + 1) = 117 ∧ (hexM b 4 (p + 2) 0).2.2 = true ∧ 56320 ≤ (hexM b 4 (p + 2) 0).1 ∧ (hexM b 4 (p + 2) 0).1 < 57344)) := Lib.hid rfl
  clear hs ht
  by_cases h1 : u < 55296
  · have HP := Lib.hid (HNO.out (.inl h1))
    go_enter Try.func59, Try.ntmps59
    have d1 : decide (u < 55296) = true := by simpa using h1
    go_wp2_with fail
    go_quiet (fail)
    go_wp2_with fail
    go_ret
    exact ⟨ret_i32 (by rw [HP.out]), by rw [HP.out]; exact Box.drew HS.out _, grownBy_drew _ _ _⟩
  have h1' : 55296 ≤ u := by omega
  have d1 : decide (u < 55296) = false := by simpa using h1'
  by_cases h2 : 56320 ≤ u
  · have HP := Lib.hid (HNO.out (.inr (.inl h2)))
    have d2 : decide (56320 ≤ u) = true := by simpa using h2
    go_enter Try.func59, Try.ntmps59
    go_wp2_with fail
    go_quiet (fail)
    go_wp2_with fail
    go_ret
    exact ⟨ret_i32 (by rw [HP.out]), by rw [HP.out]; exact Box.drew HS.out _, grownBy_drew _ _ _⟩
  have h2' : u < 56320 := by omega
  have d2 : decide (56320 ≤ u) = false := by simpa using h2'
  by_cases h3 : byt b p = 92
  · have g1 : (byt b p != 92) = false := by rw [h3]; rfl
    have hl := byt_lt h3 (by decide)
    by_cases h4 : byt b (p + 1) = 117
    · have g2 : (byt b (p + 1) != 117) = false := by rw [h4]; rfl
      have hl2 := byt_lt h4 (by decide)
      have HU := Lib.hid (fun w' (hs' : Scan w' g vb (p + 2) keep n vt) (ht' : Text w' g vb b) => unit_any g vb b (p + 2) keep n vt w' hs' ht' (by omega))
      obtain ⟨v0, v1⟩ := hexM_val b 4 (p + 2) 0 (by decide)
      have HQB := Lib.hid (hexM_bd b 4 (p + 2) 0 (by omega))
      obtain ⟨R, hR⟩ : ∃ R, hexM b 4 (p + 2) 0 = R := ⟨_, rfl⟩
      rw [hR] at HU HLB HYE v0 v1 HQB
      clear hR
      obtain ⟨l, q, ok⟩ := R
      have v0 : 0 ≤ l := v0
      have v1 : l < 65536 := by have : l < (0 + 1) * 16 ^ 4 := v1; omega
      have HU2 : Hid (∀ w', Scan w' g vb (p + 2) keep n vt → Text w' g vb b → Calls Try.prog 57 #[.pointer (some ⟨g, 0, none⟩)] w' fun e w'' => e = .returned (.tuple #[.int .i32 l, .bool ok]) ∧ Scan w'' g vb q keep n vt ∧ w'.grownBy w'' (some g)) := Lib.hid HU.out
      have HY2 : Hid (lowB b p = true → pointM b u p = (65536 + (u - 55296) * 1024 + (l - 56320), q)) := Lib.hid (HYE.out h1' h2')
      have HL2 : Hid (lowB b p = decide (ok = true ∧ 56320 ≤ l ∧ l < 57344)) := Lib.hid (by
        rw [HLB.out]
        have a1 := h3
        have a2 := h4
        show decide (byt b p = 92 ∧ byt b (p + 1) = 117 ∧ ok = true ∧ 56320 ≤ l ∧ l < 57344) = _
        simp [a1, a2])
      clear HU HYE HLB h3 h4 hl
      go_enter Try.func59, Try.ntmps59
      go_wp2_with fail
      go_quiet ((go_at_call 35; exact Calls.quiet_of_same (HQ.out _ (by omega) (by omega) _)))
      have HS1 := Lib.hid (fun k => HS.out.to k (p + 2) ((p : Int) + 2) (by omega))
      have HG1 := Lib.hid (fun k => grown_to (grown_refl w (some g)) k 1 (.int .i64 ((p : Int) + 2)))
      go_wp2_with fail
      refine (HU2.out _ (HS1.out _) (HT.out.grown (HG1.out _))).mono ?_
      rintro e x1 ⟨rfl, hs2, hg2⟩
      have f1 : x1.cell? ⟨g, 1, none⟩ = some (.int .i64 q) := hs2.c1
      have f2 : x1.frozen? ⟨g, 1, none⟩ = false := hs2.frozen 1
      have HS2 := Lib.hid hs2
      have HG2 := Lib.hid (grownBy_trans (HG1.out _) hg2)
      clear hs2 hg2
      by_cases hok : ok = true ∧ 56320 ≤ l ∧ l < 57344
      · have HP := Lib.hid (HY2.out (by rw [HL2.out]; exact decide_eq_true hok))
        obtain ⟨rfl, k1, k2⟩ := hok
        go_wp2_with fail
        go_ret
        exact ⟨ret_i32 (by rw [HP.out]), by rw [HP.out]; exact HS2.out, HG2.out⟩
      · have HP := Lib.hid (HNO.out (.inr (.inr (by rw [HL2.out]; exact decide_eq_false hok))))
        cases ok with
        | false =>
          go_wp2_with fail
          go_ret
          exact ⟨ret_i32 (by rw [HP.out]), by rw [HP.out]; exact HS2.out.to0 _ _ rfl, grown_to0 HG2.out _ _⟩
        | true =>
          by_cases k1 : l < 56320
          · go_wp2_with fail
            go_ret
            exact ⟨ret_i32 (by rw [HP.out]), by rw [HP.out]; exact HS2.out.to0 _ _ rfl, grown_to0 HG2.out _ _⟩
          · have k1' : 56320 ≤ l := by omega
            have k2 : 57344 ≤ l := by
              rcases Int.lt_or_le l 57344 with h | h
              · exact absurd ⟨rfl, k1', h⟩ hok
              · exact h
            clear hok
            go_wp2_with fail
            go_ret
            exact ⟨ret_i32 (by rw [HP.out]), by rw [HP.out]; exact HS2.out.to0 _ _ rfl, grown_to0 HG2.out _ _⟩
    · have g2 : (byt b (p + 1) != 117) = true := by simpa using h4
      have HP := Lib.hid (HNO.out (.inr (.inr (by rw [HLB.out, decide_eq_false_iff_not]; rintro ⟨_, h, _⟩; exact h4 h))))
      clear h3 h4 HLB HYE
      go_enter Try.func59, Try.ntmps59
      go_wp2_with fail
      go_quiet ((go_at_call 35; exact Calls.quiet_of_same (HQ.out _ (by omega) (by omega) _)))
      go_wp2_with fail
      go_ret
      exact ⟨ret_i32 (by rw [HP.out]), by rw [HP.out]; exact Box.drew HS.out _, grownBy_drew _ _ _⟩
  · have g1 : (byt b p != 92) = true := by simpa using h3
    have HP := Lib.hid (HNO.out (.inr (.inr (by rw [HLB.out, decide_eq_false_iff_not]; rintro ⟨h, _⟩; exact h3 h))))
    clear h3 HLB HYE
    go_enter Try.func59, Try.ntmps59
    go_wp2_with fail
    go_quiet ((go_at_call 35; exact Calls.quiet_of_same (HQ.out _ (by omega) (by omega) _)))
    go_wp2_with fail
    go_ret
    exact ⟨ret_i32 (by rw [HP.out]), by rw [HP.out]; exact Box.drew HS.out _, grownBy_drew _ _ _⟩
set_option maxHeartbeats 2000000 in
theorem short_any (c : Int) (w : World) (h0 : 0 ≤ c) (h1 : c ≤ 255) :
    Calls Try.prog 60 #[.int .u8 c] w fun e w' => e = .returned (.int .u8 (shortN c)) ∧ w = w' := by
  have HX : Hid (shortN c = if c = 34 ∨ c = 92 ∨ c = 47 then c else if c = 98 then 8 else if c = 102 then 12 else if c = 110 then 10 else if c = 114 then 13 else if c = 116 then 9 else 0) := Lib.hid rfl
  rcases (by omega : c = 34 ∨ c = 92 ∨ c = 47 ∨ c = 98 ∨ c = 102 ∨ c = 110 ∨ c = 114 ∨ c = 116 ∨ (c ≠ 34 ∧ c ≠ 92 ∧ c ≠ 47 ∧ c ≠ 98 ∧ c ≠ 102 ∧ c ≠ 110 ∧ c ≠ 114 ∧ c ≠ 116)) with h | h | h | h | h | h | h | h | ⟨k1, k2, k3, k4, k5, k6, k7, k8⟩
  all_goals first
    | (subst h
       go_enter Try.func60, Try.ntmps60
       go_wp2_with fail
       go_ret
       exact ⟨rfl, by trivial⟩)
    | (have e1 : (c == 34) = false := by simpa using k1
       have e2 : (c == 92) = false := by simpa using k2
       have e3 : (c == 47) = false := by simpa using k3
       have e4 : (c == 98) = false := by simpa using k4
       have e5 : (c == 102) = false := by simpa using k5
       have e6 : (c == 110) = false := by simpa using k6
       have e7 : (c == 114) = false := by simpa using k7
       have e8 : (c == 116) = false := by simpa using k8
       have HZ : Hid (shortN c = 0) := Lib.hid (by rw [HX.out]; (repeat' split) <;> first | rfl | omega)
       clear k1 k2 k3 k4 k5 k6 k7 k8
       go_enter Try.func60, Try.ntmps60
       go_wp2_with fail
       go_ret
       exact ⟨ret_u8 HZ.out.symm, by trivial⟩)
end Go.Proofs.Ytkdmmmheciffgaa
