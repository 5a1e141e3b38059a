/- The contract of ref5's scan.escape. -/
import Derived.Test.YtkdmmmheciffgaaScnE
import Derived.Test.YtkdmmmheciffgaaRefBy
set_option linter.unusedVariables false
set_option linter.unusedSimpArgs false
namespace Go.Proofs.Ytkdmmmheciffgaa
open Go.RowKit

def froL : List UInt8 := [34, 92, 47, 98, 102, 110, 114, 116]
def toL : List UInt8 := [34, 92, 47, 8, 12, 10, 13, 9]
theorem short_yes {c : Int} {j : Nat} (hj : j < 8) (h : byt froL j = c) : shortN c = byt toL j ∧ shortN c ≠ 0 := by
  subst h
  rcases (by omega : j = 0 ∨ j = 1 ∨ j = 2 ∨ j = 3 ∨ j = 4 ∨ j = 5 ∨ j = 6 ∨ j = 7) with rfl | rfl | rfl | rfl | rfl | rfl | rfl | rfl <;> decide
theorem short_no {c : Int} (h : ∀ k, k < 8 → byt froL k ≠ c) : shortN c = 0 := by
  have h0 : (34 : Int) ≠ c := h 0 (by decide)
  have h1 : (92 : Int) ≠ c := h 1 (by decide)
  have h2 : (47 : Int) ≠ c := h 2 (by decide)
  have h3 : (98 : Int) ≠ c := h 3 (by decide)
  have h4 : (102 : Int) ≠ c := h 4 (by decide)
  have h5 : (110 : Int) ≠ c := h 5 (by decide)
  have h6 : (114 : Int) ≠ c := h 6 (by decide)
  have h7 : (116 : Int) ≠ c := h 7 (by decide)
  unfold shortN
  (repeat' split) <;> first | rfl | omega
theorem short_117 : shortN 117 = 0 := by decide
theorem escM_end {b : List UInt8} {i : Nat} (h : b.length ≤ i + 1) : escM b i = ([], i + 1, false) := by
  unfold escM
  rw [byt_over h]
  rfl
theorem escM_short {b : List UInt8} {i : Nat} (h : shortN (byt b (i + 1)) ≠ 0) : escM b i = ([mkB (shortN (byt b (i + 1)))], i + 2, true) := by
  unfold escM
  rw [if_neg (fun e => by rw [e] at h; exact h short_117), if_neg h]
theorem escM_bad {b : List UInt8} {i : Nat} (h : shortN (byt b (i + 1)) = 0) (h2 : byt b (i + 1) ≠ 117) : escM b i = ([], i + 1, false) := by
  unfold escM
  rw [if_neg h2, if_pos h]
def FroNot (c : Int) (j : Nat) : Prop := ∀ k, k < j → byt froL k ≠ c
theorem FroNot.next {c : Int} {j : Nat} (h : FroNot c j) (h2 : byt froL j ≠ c) : FroNot c (j + 1) := by
  intro k hk
  rcases Nat.lt_or_ge k j with h3 | h3
  · exact h k h3
  · obtain rfl : k = j := by omega
    exact h2
def EscPost (w : World) (g : Nat) (vb : Value) (b : List UInt8) (i : Nat) (e : Ending) (w' : World) : Prop :=
  ∃ v', e = .returned v' ∧ Own w' w.heap.size 5 v' ((escM b i).1.map u8V) ∧ Scn w' g vb (escM b i).2.1 (notB (escM b i).2.2) ∧ w.grownBy w' (some g)
theorem lowB_in {b : List UInt8} {p : Nat} (h : lowB b p = true) : p + 6 ≤ b.length ∧ (hexM b 4 (p + 2) 0).2.2 = true ∧ 56320 ≤ (hexM b 4 (p + 2) 0).1 ∧ (hexM b 4 (p + 2) 0).1 ≤ 57343 := by
  have h2 : b.length < p + 6 → False := fun h3 => by rw [lowB_short h3] at h; cases h
  have h4 := of_decide_eq_true h
  exact ⟨by
    rcases Nat.lt_or_ge b.length (p + 6) with h5 | h5
    · exact absurd h5 h2
    · exact h5, h4.2.2.1, h4.2.2.2.1, by have := h4.2.2.2.2; omega⟩
set_option maxRecDepth 100000 in
set_option maxHeartbeats 4000000 in
theorem resc_end (g : Nat) (vb : Value) (b : List UInt8) (i : Nat) (p : Nat) (hp : i + 1 = p) (w : World) (hs : Scn w g vb p false) (ht : Text w g vb b) (hi : b.length = p) :
    Calls Try.prog 52 #[.pointer (some ⟨g, 0, none⟩)] w (EscPost w g vb b i) := by
  have d0 := hs.c0
  have d1 := hs.c1
  have HS := Lib.hid hs
  have HF := Lib.hid (escM_end (b := b) (i := i) (by omega))
  have hm := ht.le
  obtain ⟨a, cap, e, h1, h2, -, h4⟩ := ht.is
  subst e
  have hgd : decide (b.length ≤ p) = true := by simp; omega
  have d2 := hs.c2
  have fz : w.frozen? ⟨g, 2, none⟩ = false := Box.frozen hs 2
  have HI := Lib.hid hi
  have HP := Lib.hid hp
  clear hs ht hi h4 hp
  go_enter Try.func52, Try.ntmps52
  go_wp2_with fail
  go_quiet (fail)
  go_wp2_with fail
  go_ret
  exact ⟨.slice none 0 0, rfl, by rw [HF.out]; exact Own.nil _ _ _, by rw [HF.out, HP.out]; exact Scn.bad HS.out _, grown_to (grown_refl _ _) _ _ _⟩
set_option maxRecDepth 100000 in
set_option maxHeartbeats 8000000 in
theorem resc_in (g : Nat) (vb : Value) (b : List UInt8) (i : Nat) (p : Nat) (hp : i + 1 = p) (w : World) (hs : Scn w g vb p false) (ht : Text w g vb b) (hi : p < b.length) :
    Calls Try.prog 52 #[.pointer (some ⟨g, 0, none⟩)] w (EscPost w g vb b i) := by
  have d0 := hs.c0
  have d1 := hs.c1
  have hm := ht.le
  have fz : w.frozen? ⟨g, 1, none⟩ = false := Box.frozen hs 1
  have HS := Lib.hid hs
  have HT := Lib.hid ht
  obtain ⟨a, cap, e, h1, h2, -, h4⟩ := ht.is
  unfold maxLen at h2
  obtain ⟨bb, off, rfl, hc⟩ := h4 (by omega)
  have hcell : w.cell? ⟨bb, off + p, none⟩ = some (.int .u8 (byt b p)) := hc.at p (by omega)
  subst e
  have hgd : decide (b.length ≤ p) = false := by simp; omega
  have hltI : (p : Int) < (b.length : Int) := by omega
  have HSH := Lib.hid (fun h => escM_short (b := b) (i := i) h)
  have HBA := Lib.hid (fun h => escM_bad (b := b) (i := i) h)
  have HU := Lib.hid (fun h => escM_u (b := b) (i := i) h)
  have HTK := Lib.hid (fun W (hs' : Scn W g (.slice (some ⟨bb, off, none⟩) b.length cap) p false) ht' => take_any g (.slice (some ⟨bb, off, none⟩) b.length cap) b p false [117] W hs' ht' (by decide) (by omega))
  rw [show isB b false p [117] = (byt b p == 117) from isB_one (by decide)] at HTK
  have hp2 : i + 2 = p + 1 := by omega
  rw [hp] at HSH HBA HU
  rw [hp2] at HSH HU
  obtain ⟨c, hcc⟩ : ∃ c, byt b p = c := ⟨_, rfl⟩
  rw [hcc] at hcell HSH HBA HU HTK
  clear hs ht hc h4 hcc hi hp hp2
  go_enter Try.func52, Try.ntmps52
  go_wp2_with fail
  go_quiet (fail)
  go_wp2_with fail
  go_loopw [5] (fun tj wr => ∃ j : Nat, j ≤ 8 ∧ tj = .int .i64 j ∧ Hid (FroNot c j) ∧ ∃ m, wr = w.drewN m) (fun tj _ => 8 - (intOf tj).toNat)
  case atStart => exact ⟨0, Nat.zero_le _, rfl, Lib.hid (fun k hk => by omega), _, rfl⟩
  case round =>
    obtain ⟨j, hj, rfl, HN, m, rfl⟩ := hrel
    by_cases hlt : j < 8
    · have hltI2 : (j : Int) < 8 := by omega
      by_cases hq : c = byt froL j
      · have HY := Lib.hid (short_yes hlt hq.symm)
        have HF := Lib.hid (HSH.out HY.out.2)
        have g1 : (c == byt froL j) = true := by simpa using hq
        have g2 : (c == byt [34, 92, 47, 98, 102, 110, 114, 116] j) = true := g1
        clear hq
        go_wp2_with fail
        go_quiet (fail)
        go_wp2_with fail
        go_ret
        have b0 := byt_lo toL j
        have b1 := byt_hi toL j
        have HOW := Lib.hid (fun (W : World) (hW : w.heap.size ≤ W.heap.size) => Own.lit W w.heap.size 5 #[.int .u8 (byt [34, 92, 47, 8, 12, 10, 13, 9] j)] 1 rfl hW (by decide))
        have HGW := Lib.hid (fun k x => grown_to (grown_refl w (some g)) k 1 x)
        refine ⟨.slice (some ⟨_, 0, none⟩) 1 1, rfl, ?_, ?_, ?_⟩
        rotate_left
        · rw [HF.out]; exact Box.alloc (HS.out.to _ (p + 1) _ (by omega)) _
        · exact grownBy_trans (HGW.out _ _) (grownBy_none (World.grownBy_alloc _ _ none))
        · rw [HF.out]
          have e1 : [mkB (shortN c)].map u8V = [Value.int .u8 (byt [34, 92, 47, 8, 12, 10, 13, 9] j)] := by rw [HY.out.1]; exact (by simp [u8V_mk b0 b1] : [mkB (byt toL j)].map u8V = [Value.int .u8 (byt toL j)])
          show Own _ _ _ _ ([mkB (shortN c)].map u8V)
          rw [e1]
          simpa using HOW.out _ (HGW.out _ _).size
      · have HN2 := Lib.hid (HN.out.next (fun h => hq h.symm))
        have g1 : (c == byt froL j) = false := by simpa using hq
        have g2 : (c == byt [34, 92, 47, 98, 102, 110, 114, 116] j) = false := g1
        clear hq
        go_wp2_with fail
        go_quiet (fail)
        go_wp2_with fail
        exact ⟨⟨j + 1, by omega, by go_num, HN2, _, by first | rfl | (rw [World.drewN_drewN])⟩, by simp [intOf]; omega⟩
    · obtain rfl : j = 8 := by omega
      have HZ := Lib.hid (short_no HN.out)
      have HSm := Lib.hid (Box.drew HS.out m)
      by_cases hu : c = 117
      · have g1 : (c == 117) = true := by simpa using hu
        have HTK2 : Hid (∀ m, Calls Try.prog 30 #[.pointer (some ⟨g, 0, none⟩), .string ⟨[117].toArray⟩] (w.drewN m) fun e w' => e = .returned (.bool true) ∧ Scn w' g (.slice (some ⟨bb, off, none⟩) b.length cap) (p + 1) false ∧ (w.drewN m).grownBy w' (some g)) := Lib.hid (fun m => by have h := HTK.out (w.drewN m) (Box.drew HS.out m) (HT.out.grown (grownBy_drew _ _ _)); rw [g1] at h; exact h)
        have HHX := Lib.hid (fun W h1 h2 => rhex_any g (.slice (some ⟨bb, off, none⟩) b.length cap) b (p + 1) W h1 h2 (by omega))
        have HQB := hexM_val b 4 (p + 1) 0 (by decide)
        have HQD := hexM_bd b 4 (p + 1) 0 (by omega)
        have HES := Lib.hid (HU.out hu)
        have HZE := Lib.hid (hexM_zero b 4 (p + 1) 0)
        obtain ⟨R, hR⟩ : ∃ R, hexM b 4 (p + 1) 0 = R := ⟨_, rfl⟩
        rw [hR] at HHX HQB HQD HES HZE
        clear hR hu HTK HU HBA HSH HZ HN
        obtain ⟨u, q, ok⟩ := R
        have v0 : 0 ≤ u := HQB.1
        have v1 : u < 65536 := by have : u < (0 + 1) * 16 ^ 4 := HQB.2; omega
        have hqb : q ≤ b.length := HQD.2
        have HH2 : Hid (∀ W, Scn W g (.slice (some ⟨bb, off, none⟩) b.length cap) (p + 1) false → Text W g (.slice (some ⟨bb, off, none⟩) b.length cap) b → Calls Try.prog 55 #[.pointer (some ⟨g, 0, none⟩)] W fun e w' => e = .returned (.int .i32 u) ∧ Scn w' g (.slice (some ⟨bb, off, none⟩) b.length cap) q (notB ok) ∧ W.grownBy w' (some g)) := Lib.hid HHX.out
        have HE2 : Hid (escM b i = (if ok = true then encR (fixR (pointM b u q).1) else [], (pointM b u q).2, ok)) := Lib.hid (HES.out u q ok rfl)
        have HNOP := Lib.hid (pointM_no (b := b) (u := u) (p := q))
        have HYEP := Lib.hid (pointM_yes (b := b) (u := u) (p := q))
        have HZ2 : Hid (ok = false → u = 0) := Lib.hid HZE.out
        clear HHX HQB HQD HES HZE
        go_wp2_with fail
        refine (HTK2.out _).mono ?_
        rintro e x1 ⟨rfl, hs1, hg1⟩
        have HG1 := Lib.hid (grownBy_trans (grownBy_drew w m (some g)) hg1)
        have HS1 := Lib.hid hs1
        clear hs1 hg1
        go_wp2_with fail
        refine (HH2.out _ HS1.out (HT.out.grown HG1.out)).mono ?_
        rintro e x2 ⟨rfl, hs2, hg2⟩
        have HG2 := Lib.hid (grownBy_trans HG1.out hg2)
        have HS2 := Lib.hid hs2
        have e2 : x2.cell? ⟨g, 2, none⟩ = some (.bool (notB ok)) := hs2.c2
        clear hs2 hg2
        cases ok with
        | false =>
          have HF : Hid (escM b i = ([], q, false)) := Lib.hid (by
            have hu0 := HZ2.out rfl
            rw [HE2.out, HNOP.out (.inl (by omega))]; rfl)
          have e3 : x2.cell? ⟨g, 2, none⟩ = some (.bool true) := e2
          clear e2
          go_wp2_with fail
          go_ret
          exact ⟨.slice none 0 0, rfl, by rw [HF.out]; exact Own.nil _ _ _, by rw [HF.out]; exact HS2.out, HG2.out⟩
        | true =>
          have e3 : x2.cell? ⟨g, 2, none⟩ = some (.bool false) := e2
          clear e2
          by_cases hr : 55296 ≤ u ∧ u ≤ 56319
          · obtain ⟨r0, r1⟩ := hr
            have HLW := Lib.hid (low_any g (.slice (some ⟨bb, off, none⟩) b.length cap) b q false x2 HS2.out (HT.out.grown HG2.out) hqb)
            have HLI := Lib.hid (lowB_in (b := b) (p := q))
            have HYE := Lib.hid (HYEP.out (by omega) (by omega))
            have HNO := Lib.hid (fun h => HNOP.out (.inr (.inr h)))
            obtain ⟨lb, hlb⟩ : ∃ lb, lowB b q = lb := ⟨_, rfl⟩
            rw [hlb] at HLW HLI HYE HNO
            clear hlb HYEP HNOP
            cases lb with
            | true =>
              obtain ⟨q1, q2, q3, q4⟩ := HLI.out rfl
              have HHX := Lib.hid (fun W h1 h2 => rhex_any g (.slice (some ⟨bb, off, none⟩) b.length cap) b (q + 2) W h1 h2 (by omega))
              have HY2 := Lib.hid (HYE.out rfl)
              obtain ⟨R, hR⟩ : ∃ R, hexM b 4 (q + 2) 0 = R := ⟨_, rfl⟩
              rw [hR] at HHX HY2 q2 q3 q4
              obtain ⟨l, q', ok2⟩ := R
              have q2 : ok2 = true := q2
              subst q2
              have q3 : 56320 ≤ l := q3
              have q4 : l ≤ 57343 := q4
              have HF : Hid (escM b i = (encR (fixR (65536 + (u - 55296) * 1024 + l - 56320)), q', true)) := Lib.hid (by
                rw [HE2.out, HY2.out, show 65536 + (u - 55296) * 1024 + l - 56320 = 65536 + (u - 55296) * 1024 + (l - 56320) by omega]; rfl)
              have HH3 : Hid (∀ W, Scn W g (.slice (some ⟨bb, off, none⟩) b.length cap) (q + 2) false → Text W g (.slice (some ⟨bb, off, none⟩) b.length cap) b → Calls Try.prog 55 #[.pointer (some ⟨g, 0, none⟩)] W fun e w' => e = .returned (.int .i32 l) ∧ Scn w' g (.slice (some ⟨bb, off, none⟩) b.length cap) q' false ∧ W.grownBy w' (some g)) := Lib.hid HHX.out
              clear hR HHX HY2 HYE HNO HLI HE2 q1
              go_wp2_with fail
              refine HLW.out.mono ?_
              rintro e x3 ⟨rfl, hb3⟩
              have HG3 := Lib.hid (grownBy_trans HG2.out (grownBy_below hb3 _))
              have hs3 : Scn x3 g (.slice (some ⟨bb, off, none⟩) b.length cap) q false := Box.below HS2.out hb3 (Box.lt HS2.out)
              have HS3 := Lib.hid hs3
              have e1 : x3.cell? ⟨g, 1, none⟩ = some (.int .i64 q) := hs3.c1
              have f1 : x3.frozen? ⟨g, 1, none⟩ = false := Box.frozen hs3 1
              have HS4 : Hid (Scn (x3.setCell ⟨g, 1, none⟩ (.int .i64 ((q : Int) + 2))) g (.slice (some ⟨bb, off, none⟩) b.length cap) (q + 2) false) := Lib.hid (Box.set hs3 1 (by simp) _)
              have HG4 := Lib.hid (grown_to0 HG3.out 1 (.int .i64 ((q : Int) + 2)))
              have HT4 := Lib.hid (HT.out.grown HG4.out)
              clear hb3 hs3
              go_wp2_with fail
              refine (HH3.out _ HS4.out HT4.out).mono ?_
              rintro e x4 ⟨rfl, hs4, hg4⟩
              have HS5 := Lib.hid hs4
              have HG5 := Lib.hid (grownBy_trans HG4.out hg4)
              clear hs4 hg4
              go_wp2_with fail
              refine (bytes_any _ _ (by omega) (by omega)).mono ?_
              rintro e x5 ⟨v', rfl, ho4, hb4⟩
              go_wp2_with fail
              go_ret
              exact ⟨v', rfl, by rw [HF.out]; exact Own.base ho4 HG5.out.size, by rw [HF.out]; exact Box.below HS5.out hb4 (Box.lt HS5.out), grownBy_trans HG5.out (grownBy_below hb4 _)⟩
            | false =>
              have HF : Hid (escM b i = (encR (fixR u), q, true)) := Lib.hid (by rw [HE2.out, HNO.out rfl]; rfl)
              clear HE2 HNO HYE HLI
              go_wp2_with fail
              refine HLW.out.mono ?_
              rintro e x3 ⟨rfl, hb3⟩
              have HG3 := Lib.hid (grownBy_trans HG2.out (grownBy_below hb3 _))
              have HS3 := Lib.hid (Box.below HS2.out hb3 (Box.lt HS2.out))
              clear hb3
              go_wp2_with fail
              refine (bytes_any u _ (by omega) (by omega)).mono ?_
              rintro e x4 ⟨v', rfl, ho4, hb4⟩
              go_wp2_with fail
              go_ret
              exact ⟨v', rfl, by rw [HF.out]; exact Own.base ho4 HG3.out.size, by rw [HF.out]; exact Box.below HS3.out hb4 (Box.lt HS3.out), grownBy_trans HG3.out (grownBy_below hb4 _)⟩
          · have HF : Hid (escM b i = (encR (fixR u), q, true)) := Lib.hid (by rw [HE2.out, HNOP.out (by omega)]; rfl)
            clear HE2 HNOP HYEP
            by_cases r0 : 55296 ≤ u
            · have r1 : 56319 < u := by omega
              have dg : decide (u ≤ 56319) = false := by simpa using r1
              clear hr
              go_wp2_with fail
              refine (bytes_any u _ (by omega) (by omega)).mono ?_
              rintro e x4 ⟨v', rfl, ho4, hb4⟩
              go_wp2_with fail
              go_ret
              exact ⟨v', rfl, by rw [HF.out]; exact Own.base ho4 HG2.out.size, by rw [HF.out]; exact Box.below HS2.out hb4 (Box.lt HS2.out), grownBy_trans HG2.out (grownBy_below hb4 _)⟩
            · have r1 : u < 55296 := by omega
              have dg : decide (55296 ≤ u) = false := by simpa using r1
              clear hr
              go_wp2_with fail
              refine (bytes_any u _ (by omega) (by omega)).mono ?_
              rintro e x4 ⟨v', rfl, ho4, hb4⟩
              go_wp2_with fail
              go_ret
              exact ⟨v', rfl, by rw [HF.out]; exact Own.base ho4 HG2.out.size, by rw [HF.out]; exact Box.below HS2.out hb4 (Box.lt HS2.out), grownBy_trans HG2.out (grownBy_below hb4 _)⟩
      · have HF := Lib.hid (HBA.out HZ.out hu)
        have g1 : (c == 117) = false := by simpa using hu
        have HTK2 : Hid (∀ m, Calls Try.prog 30 #[.pointer (some ⟨g, 0, none⟩), .string ⟨[117].toArray⟩] (w.drewN m) fun e w' => e = .returned (.bool false) ∧ Scn w' g (.slice (some ⟨bb, off, none⟩) b.length cap) p false ∧ (w.drewN m).grownBy w' (some g)) := Lib.hid (fun m => by have h := HTK.out (w.drewN m) (Box.drew HS.out m) (HT.out.grown (grownBy_drew _ _ _)); rw [g1] at h; exact h)
        clear hu HTK
        go_wp2_with fail
        refine (HTK2.out _).mono ?_
        rintro e x1 ⟨rfl, hs1, hg1⟩
        have HS1 := Lib.hid hs1
        have HG1 := Lib.hid (grownBy_trans (grownBy_drew w m (some g)) hg1)
        have d2 : x1.cell? ⟨g, 2, none⟩ = some (.bool false) := hs1.c2
        have f2 : x1.frozen? ⟨g, 2, none⟩ = false := Box.frozen hs1 2
        clear hs1 hg1
        go_wp2_with fail
        go_ret
        exact ⟨.slice none 0 0, rfl, by rw [HF.out]; exact Own.nil _ _ _, by rw [HF.out]; exact Box.set HS1.out 2 (by simp) _, grown_to0 HG1.out _ _⟩
theorem resc_any (g : Nat) (vb : Value) (b : List UInt8) (i : Nat) (w : World) (hs : Scn w g vb (i + 1) false) (ht : Text w g vb b) (hi : i < b.length) :
    Calls Try.prog 52 #[.pointer (some ⟨g, 0, none⟩)] w (EscPost w g vb b i) := by
  rcases Nat.lt_or_ge (i + 1) b.length with h | h
  · exact resc_in g vb b i (i + 1) rfl w hs ht h
  · exact resc_end g vb b i (i + 1) rfl w hs ht (by omega)
end Go.Proofs.Ytkdmmmheciffgaa
