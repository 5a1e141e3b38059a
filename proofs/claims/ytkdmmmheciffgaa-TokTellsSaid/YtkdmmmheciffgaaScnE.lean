/- The contract of ref5's scan.low. -/
import Derived.Test.YtkdmmmheciffgaaScnD
import Derived.Test.YtkdmmmheciffgaaTokX
set_option linter.unusedVariables false
set_option linter.unusedSimpArgs false
namespace Go.Proofs.Ytkdmmmheciffgaa
open Go.RowKit

theorem hexM_full (b : List UInt8) : ∀ (k i : Nat) (n : Int), i ≤ b.length → (hexM b k i n).2.2 = true → i + k ≤ b.length ∧ (hexM b k i n).2.1 = i + k := by
  intro k
  induction k with
  | zero => intro i n h _; exact ⟨h, rfl⟩
  | succ k ih =>
    intro i n h ht
    by_cases hx : hexN (byt b i) < 0
    · rw [hexM_no hx] at ht; cases ht
    · rw [hexM_yes hx] at ht ⊢
      have hl := hexN_lt hx
      have := ih (i + 1) _ (by omega) ht
      omega
theorem lowB_short {b : List UInt8} {p : Nat} (h : b.length < p + 6) : lowB b p = false := by
  unfold lowB
  rw [decide_eq_false_iff_not]
  rintro ⟨h1, h2, h3, -, -⟩
  have hl : p + 1 < b.length := byt_lt h2 (by decide)
  have := (hexM_full b 4 (p + 2) 0 (by omega) h3).1
  omega
theorem lowB_c {b : List UInt8} {p : Nat} (h : byt b p ≠ 92) : lowB b p = false := by
  unfold lowB
  rw [decide_eq_false_iff_not]
  exact fun h1 => h h1.1
theorem lowB_d {b : List UInt8} {p : Nat} (h : byt b (p + 1) ≠ 117) : lowB b p = false := by
  unfold lowB
  rw [decide_eq_false_iff_not]
  exact fun h1 => h h1.2.1
theorem lowB_e {b : List UInt8} {p : Nat} (h1 : byt b p = 92) (h2 : byt b (p + 1) = 117) (u : Int) (q : Nat) (ok : Bool) (hR : hexM b 4 (p + 2) 0 = (u, q, ok)) : lowB b p = (ok && (decide (56320 ≤ u) && decide (u ≤ 57343))) := by
  unfold lowB
  rw [hR, Bool.eq_iff_iff]
  simp [h1, h2]
  intro _ _
  omega
theorem textB_of {w : World} {vb : Value} {b : List UInt8} (hv : Is8 w vb b) (hm : b.length ≤ 1000000) : TextB w w.heap.size vb b :=
  ⟨hv, fun hn bb off l c e => by
    obtain ⟨a, cap, e2, h1, h2, h3, h4⟩ := hv
    obtain ⟨bb2, off2, e3, hc⟩ := h4 hn
    subst e2
    injection e with e4
    rw [e3] at e4
    injection e4 with e5
    injection e5 with e6
    have := hc.lt hn
    omega, hm⟩
set_option maxRecDepth 100000 in
set_option maxHeartbeats 4000000 in
theorem low_any (g : Nat) (vb : Value) (b : List UInt8) (i : Nat) (bad : Bool) (w : World) (hs : Scn w g vb i bad) (ht : Text w g vb b) (hi : i ≤ b.length) :
    Calls Try.prog 56 #[.pointer (some ⟨g, 0, none⟩)] w fun e w' => e = .returned (.bool (lowB b i)) ∧ Below w.heap.size w w' := by
  have hm := ht.le
  have HTB := Lib.hid (textB_of ht.is hm)
  have HB0 := Lib.hid (Below.refl w.heap.size w)
  have d0 := hs.c0
  have d1 := hs.c1
  have hgs0 : g < w.heap.size := Box.lt hs
  have HAL := Lib.hid (fun n (o : Obj) => Box.alloc (Box.drew hs n) o)
  have HT := Lib.hid ht
  obtain ⟨a, cap, e, h1, h2, -, h4⟩ := HT.out.is
  unfold maxLen at h2
  clear hs ht
  by_cases hsh : b.length < i + 6
  · have HF : Hid (lowB b i = false) := Lib.hid (lowB_short hsh)
    have hshI : (b.length : Int) - (i : Int) < 6 := by omega
    subst e
    clear h4
    go_enter Try.func56, Try.ntmps56
    go_wp2_with fail
    go_quiet (fail)
    go_wp2_with fail
    go_ret
    exact ⟨ret_b HF.out.symm, below_drewN HB0.out _⟩
  have hshI : (6 : Int) ≤ (b.length : Int) - (i : Int) := by omega
  have hgs : decide ((b.length : Int) - (i : Int) < 6) = false := by simp; omega
  obtain ⟨bb, off, rfl, hc⟩ := h4 (by omega)
  have hcell : w.cell? ⟨bb, off + i, none⟩ = some (.int .u8 (byt b i)) := hc.at i (by omega)
  have hcell2 : w.cell? ⟨bb, off + (i + 1), none⟩ = some (.int .u8 (byt b (i + 1))) := hc.at (i + 1) (by omega)
  subst e
  have HLC := Lib.hid (fun (h : byt b i ≠ 92) => lowB_c h)
  have HLD := Lib.hid (fun (h : byt b (i + 1) ≠ 117) => lowB_d h)
  have HLE := Lib.hid (fun (h1 : byt b i = 92) (h2 : byt b (i + 1) = 117) => lowB_e h1 h2)
  obtain ⟨c, hcc⟩ : ∃ c, byt b i = c := ⟨_, rfl⟩
  obtain ⟨d, hdd⟩ : ∃ d, byt b (i + 1) = d := ⟨_, rfl⟩
  rw [hcc] at hcell HLC HLE
  rw [hdd] at hcell2 HLD HLE
  clear hcc hdd hc h4 hsh
  by_cases hcq : c = 92
  · subst hcq
    by_cases hdq : d = 117
    · subst hdq
      have HHX := Lib.hid (fun W (G : Nat) h1 h2 => rhex_any G (.slice (some ⟨bb, off, none⟩) b.length cap) b (i + 2) W h1 h2 (by omega))
      have HQB := hexM_val b 4 (i + 2) 0 (by decide)
      obtain ⟨R, hR⟩ : ∃ R, hexM b 4 (i + 2) 0 = R := ⟨_, rfl⟩
      have HLF := Lib.hid (fun u q ok => HLE.out rfl rfl u q ok)
      rw [hR] at HHX HQB HLF
      clear hR HLC HLD HLE
      obtain ⟨u, q, ok⟩ := R
      have v0 : 0 ≤ u := HQB.1
      have v1 : u < 65536 := by have : u < (0 + 1) * 16 ^ 4 := HQB.2; omega
      have HLG := Lib.hid (HLF.out u q ok rfl)
      have HHY : Hid (∀ W (G : Nat), Scn W G (.slice (some ⟨bb, off, none⟩) b.length cap) (i + 2) false → Text W G (.slice (some ⟨bb, off, none⟩) b.length cap) b → Calls Try.prog 55 #[.pointer (some ⟨G, 0, none⟩)] W fun e w' => e = .returned (.int .i32 u) ∧ Scn w' G (.slice (some ⟨bb, off, none⟩) b.length cap) q (notB ok) ∧ W.grownBy w' (some G)) := Lib.hid HHX.out
      clear HQB HHX HLF
      go_enter Try.func56, Try.ntmps56
      go_wp2_with fail
      go_quiet (fail)
      go_wp2_with fail
      have k0 : ∀ n o, ((w.drewN n).alloc o).cell? ⟨g, 0, none⟩ = some (.slice (some ⟨bb, off, none⟩) b.length cap) := fun n o => Scn.c0 (HAL.out n o)
      have k1 : ∀ n o, ((w.drewN n).alloc o).cell? ⟨g, 1, none⟩ = some (.int .i64 i) := fun n o => Scn.c1 (HAL.out n o)
      have HNW := Lib.hid (fun n => Box.new (w.drewN n) 58 [.slice none 0 0, .int .i64 0, .bool false])
      have n0 : ∀ n, ((w.drewN n).alloc (.cells #[.slice none 0 0, .int .i64 0, .bool false] 58)).cell? ⟨w.heap.size, 0, none⟩ = some (.slice none 0 0) := fun n => Box.cell (HNW.out n) 0
      have n1 : ∀ n, ((w.drewN n).alloc (.cells #[.slice none 0 0, .int .i64 0, .bool false] 58)).cell? ⟨w.heap.size, 1, none⟩ = some (.int .i64 0) := fun n => Box.cell (HNW.out n) 1
      have n2 : ∀ n, ((w.drewN n).alloc (.cells #[.slice none 0 0, .int .i64 0, .bool false] 58)).cell? ⟨w.heap.size, 2, none⟩ = some (.bool false) := fun n => Box.cell (HNW.out n) 2
      have nf : ∀ n k, ((w.drewN n).alloc (.cells #[.slice none 0 0, .int .i64 0, .bool false] 58)).frozen? ⟨w.heap.size, k, none⟩ = false := fun n k => Box.frozen (HNW.out n) k
      go_region
      all_goals
        have ei : ((i + 2 : Nat) : Int) = (i : Int) + 2 := by omega
        have HS1 := Lib.hid (fun n => Box.set (Box.set (Box.set (HNW.out n) 0 (by simp) (.slice (some ⟨bb, off, none⟩) b.length cap)) 1 (by simp) (.int .i64 ((i : Int) + 2))) 2 (by simp) (.bool false))
        have HB1 := Lib.hid (fun n (o : Obj) v1 v2 v3 => (((below_drewN HB0.out n).alloc (by exact Nat.le_refl _) o).setCell (p := ⟨w.heap.size, 0, none⟩) (Nat.le_refl _) v1).setCell (p := ⟨w.heap.size, 1, none⟩) (Nat.le_refl _) v2 |>.setCell (p := ⟨w.heap.size, 2, none⟩) (Nat.le_refl _) v3)
        clear k0 k1 n0 n1 n2 nf
        go_wp2_with fail
        refine (HHY.out _ _ (by unfold Scn; rw [ei]; exact HS1.out _) ((HTB.out.below (by exact HB1.out _ _ _ _ _)).at (Nat.le_refl _))).mono ?_
        rintro e w' ⟨rfl, hs2, hg2⟩
        have HB2 : Hid (Below w.heap.size w w') := Lib.hid ((HB1.out _ _ _ _ _).grown hg2 (by simp) (fun k hk => by cases hk; omega))
        have e2 : w'.cell? ⟨w.heap.size, 2, none⟩ = some (.bool (notB ok)) := Scn.c2 hs2
        clear hs2 hg2 HS1 HB1
        cases ok with
        | false =>
          have e3 : w'.cell? ⟨w.heap.size, 2, none⟩ = some (.bool true) := e2
          clear e2
          have HF : Hid (lowB b i = false) := Lib.hid HLG.out
          go_wp2_with fail
          go_ret
          exact ⟨ret_b HF.out.symm, HB2.out⟩
        | true =>
          have e3 : w'.cell? ⟨w.heap.size, 2, none⟩ = some (.bool false) := e2
          clear e2
          have HF : Hid (lowB b i = (decide (56320 ≤ u) && decide (u ≤ 57343))) := Lib.hid HLG.out
          by_cases q1 : 56320 ≤ u
          · by_cases q2 : u ≤ 57343
            · have HF2 : Hid (lowB b i = true) := Lib.hid (by rw [HF.out]; simp [q1, q2])
              go_wp2_with fail
              go_ret
              exact ⟨ret_b HF2.out.symm, HB2.out⟩
            · have HF2 : Hid (lowB b i = decide (u ≤ 57343)) := Lib.hid (by rw [HF.out]; simp [q1])
              go_wp2_with fail
              go_ret
              exact ⟨ret_b HF2.out.symm, HB2.out⟩
          · have HF2 : Hid (lowB b i = false) := Lib.hid (by rw [HF.out]; simp [q1])
            go_wp2_with fail
            go_ret
            exact ⟨ret_b HF2.out.symm, HB2.out⟩
    · have HF : Hid (lowB b i = false) := Lib.hid (HLD.out hdq)
      have g2 : (d != 117) = true := by simpa using hdq
      have g1 : (d == 117) = false := by simpa using hdq
      clear hdq
      go_enter Try.func56, Try.ntmps56
      go_wp2_with fail
      go_quiet (fail)
      go_wp2_with fail
      go_ret
      exact ⟨ret_b HF.out.symm, below_drewN HB0.out _⟩
  · have HF : Hid (lowB b i = false) := Lib.hid (HLC.out hcq)
    have g2 : (c != 92) = true := by simpa using hcq
    have g1 : (c == 92) = false := by simpa using hcq
    clear hcq
    go_enter Try.func56, Try.ntmps56
    go_wp2_with fail
    go_quiet (fail)
    go_wp2_with fail
    go_ret
    exact ⟨ret_b HF.out.symm, below_drewN HB0.out _⟩
end Go.Proofs.Ytkdmmmheciffgaa
