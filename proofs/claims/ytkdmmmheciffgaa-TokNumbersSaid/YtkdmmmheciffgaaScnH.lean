/- The contract of ref5's scan.text. -/
import Derived.Test.YtkdmmmheciffgaaScnF
import Derived.Test.YtkdmmmheciffgaaStepS
import Derived.Test.YtkdmmmheciffgaaOk
import Derived.IntWalk
set_option linter.unusedVariables false
set_option linter.unusedSimpArgs false
namespace Go.Proofs.Ytkdmmmheciffgaa
open Go.RowKit

/-- How much is left to a scan. -/
def leftS (g m : Nat) (w : World) : Nat := match w.cell? ⟨g, 1, none⟩, w.cell? ⟨g, 2, none⟩ with | some (.int _ x), some (.bool t) => 2 * (m - x.toNat) + (if t = true then 0 else 1) | _, _ => 0
theorem leftS_eq {w : World} {g : Nat} {vb : Value} {i : Nat} {bad : Bool} (h : Scn w g vb i bad) (m : Nat) : leftS g m w = 2 * (m - i) + (if bad = true then 0 else 1) := by
  unfold leftS; rw [h.c1, h.c2]; simp
def TxtAt (b : List UInt8) (p0 p : Nat) (acc : List UInt8) (bad : Bool) : Prop := (bad = false ∧ strM b p0 [] = strM b p acc) ∨ (bad = true ∧ strM b p0 [] = ([], p, false))
theorem Own.neScn {w : World} {B : Nat} {v : Value} {xs : List Value} (h : Own w B 5 v xs) {g : Nat} {cs : List Value} (hb : Box w g 58 cs) : v.ownBlock ≠ some g := by
  rcases h.2 with ⟨rfl, _⟩ | ⟨g2, cap, cur, rfl, _, hh, _⟩
  · simp [Value.ownBlock]
  · intro e
    have e : g2 = g := by simpa [Value.ownBlock] using e
    subst e
    have hb2 : w.heap[g2]? = some (.cells cs.toArray 58 (0, 0)) := hb
    rw [hh] at hb2
    injection hb2 with hb3
    injection hb3 with _ h4 _
    exact absurd h4 (by decide)
theorem isB_c {b : List UInt8} {p : Nat} {c : UInt8} (hc : (c.toNat : Int) ≠ 0) (t : Bool) (h : (byt b p == (c.toNat : Int)) = t) : isB b false p [c] = t := by rw [isB_one hc, h]
/-- Grown by blocks of one's own that came behind. -/
theorem grown_own {w wr w' : World} {v : Value} {row : Option Nat} (h : w.grownBy wr row) (hg : wr.grownBy w' v.ownBlock) (hv : ∀ k, v.ownBlock = some k → w.heap.size ≤ k) : w.grownBy w' row :=
  ⟨hg.os.trans h.os, hg.tape.trans h.tape, hg.output.trans h.output, Nat.le_trans h.size hg.size, fun i hi hr => (hg.block i (Nat.lt_of_lt_of_le hi h.size) (fun e => by have := hv i e.symm; omega)).trans (h.block i hi hr)⟩
theorem Scn.to1 {w : World} {g : Nat} {vb : Value} {i : Nat} {bad : Bool} (h : Scn w g vb i bad) (j : Nat) (x : Int) (hx : x = (j : Int)) : Scn (w.setCell ⟨g, 1, none⟩ (.int .i64 x)) g vb j bad := by
  subst hx
  exact Box.set h 1 (by simp) _
set_option maxRecDepth 100000 in
set_option maxHeartbeats 16000000 in
theorem rtext_any (g : Nat) (vb : Value) (b : List UInt8) (p0 : Nat) (w : World) (hs : Scn w g vb p0 false) (ht : Text w g vb b) (hp0 : p0 ≤ b.length) :
    Calls Try.prog 42 #[.pointer (some ⟨g, 0, none⟩)] w fun e w' => e = .returned (.string ⟨(strM b p0 []).1.toArray⟩) ∧ Scn w' g vb (strM b p0 []).2.1 (notB (strM b p0 []).2.2) ∧ w.grownBy w' (some g) := by
  have hm := ht.le
  have HT := Lib.hid ht
  have HS := Lib.hid hs
  clear hs ht
  go_enter Try.func42, Try.ntmps42
  go_wp2_with fail
  go_loopw [3] (fun t3 wr => ∃ (p : Nat) (acc : List UInt8) (bad : Bool), p ≤ b.length ∧ acc.length ≤ 4 * p ∧ Hid (TxtAt b p0 p acc bad) ∧ Own wr w.heap.size 5 t3 (acc.map u8V) ∧ Scn wr g vb p bad ∧ w.grownBy wr (some g)) (fun _ wr => leftS g b.length wr)
  case atStart => exact ⟨p0, [], false, hp0, by simp, Lib.hid (.inl ⟨rfl, rfl⟩), Own.nil _ _ _, HS.out, grown_refl _ _⟩
  case round =>
    obtain ⟨p, acc, bad, hpl, hacc, HE, how, hs, hg⟩ := hrel
    have HOW := Lib.hid how
    have HSr := Lib.hid hs
    have HG := Lib.hid hg
    have HTr := Lib.hid (HT.out.grown hg)
    have d0 : wr.cell? ⟨g, 0, none⟩ = some vb := hs.c0
    have d1 : wr.cell? ⟨g, 1, none⟩ = some (.int .i64 p) := hs.c1
    have d2 : wr.cell? ⟨g, 2, none⟩ = some (.bool bad) := hs.c2
    have f1 : wr.frozen? ⟨g, 1, none⟩ = false := Box.frozen hs 1
    have f2 : wr.frozen? ⟨g, 2, none⟩ = false := Box.frozen hs 2
    clear how hs hg
    cases bad with
    | true =>
      have HF : Hid (strM b p0 [] = ([], p, false)) := Lib.hid (by
        rcases HE.out with ⟨h, -⟩ | ⟨-, h⟩
        · cases h
        · exact h)
      go_wp2_with fail
      go_ret
      exact ⟨by rw [HF.out]; rfl, by rw [HF.out]; exact HSr.out, HG.out⟩
    | false =>
      have HE2 : Hid (strM b p0 [] = strM b p acc) := Lib.hid (by
        rcases HE.out with ⟨-, h⟩ | ⟨h, -⟩
        · exact h
        · cases h)
      clear HE
      obtain ⟨a, cap, e, h1, h2, -, h4⟩ := HTr.out.is
      subst e
      have hmaxc := h2
      unfold maxLen at h2
      by_cases hlt : p < b.length
      · obtain ⟨bb, off, rfl, hc⟩ := h4 (by omega)
        have hcell : wr.cell? ⟨bb, off + p, none⟩ = some (.int .u8 (byt b p)) := hc.at p hlt
        have hltI : (p : Int) < (b.length : Int) := by omega
        have hgd : decide (b.length ≤ p) = false := by simp; omega
        have HC := Lib.hid hc
        have HST := Lib.hid (HE2.out.trans (strM_step b p acc hlt))
        clear hc h4
        by_cases k3 : byt b p < 32
        · have HF : Hid (TxtAt b p0 p acc true) := Lib.hid (.inr ⟨rfl, by
            rw [HST.out, if_neg (by omega), if_neg (by omega), if_pos k3]⟩)
          go_wp2_with fail
          go_quiet (fail)
          go_wp2_with fail
          exact ⟨⟨p, acc, true, hpl, hacc, HF, Own.kept HOW.out (grown_to (grown_refl _ (some g)) _ 2 _) (.inr (HOW.out.neScn HSr.out)), Scn.bad HSr.out _, grown_to HG.out _ 2 _⟩, by rw [leftS_eq (Scn.bad HSr.out _), leftS_eq HSr.out]; simp⟩
        have k3' : 32 ≤ byt b p := by omega
        by_cases k1 : byt b p = 34
        · have HF : Hid (strM b p0 [] = (acc, p + 1, true)) := Lib.hid (by rw [HST.out, if_pos k1])
          have HQ1 : Hid (∀ W, Scn W g (.slice (some ⟨bb, off, none⟩) b.length cap) p false → Text W g (.slice (some ⟨bb, off, none⟩) b.length cap) b → Calls Try.prog 30 #[.pointer (some ⟨g, 0, none⟩), .string ⟨[34].toArray⟩] W fun e w' => e = .returned (.bool true) ∧ Scn w' g (.slice (some ⟨bb, off, none⟩) b.length cap) (p + 1) false ∧ W.grownBy w' (some g)) := Lib.hid (fun W h1 h2 => by
            have h := take_any g (.slice (some ⟨bb, off, none⟩) b.length cap) b p false [34] W h1 h2 (by decide) (by omega)
            rw [isB_c (by decide) true (by simpa using k1)] at h
            exact h)
          clear k1
          go_wp2_with fail
          go_quiet (fail)
          go_wp2_with fail
          refine (HQ1.out _ (Box.drew HSr.out _) (HTr.out.grown (grownBy_drew _ _ _))).mono ?_
          rintro e x1 ⟨rfl, hs1, hg1⟩
          have HG1 := Lib.hid (grownBy_trans (grownBy_drew wr _ (some g)) hg1)
          have HS1 := Lib.hid hs1
          have HW1 := Lib.hid ((Own.kept HOW.out HG1.out (.inr (HOW.out.neScn HSr.out))).is8)
          clear hs1 hg1
          go_wp2_with (refine wpList_toStr _ (by rfl) _ _ _ rfl 5 Try.underlying22 Try.underlying5 Try.underlying9 _ rfl _ HW1.out ?_)
          go_ret
          exact ⟨by rw [HF.out]; rfl, by rw [HF.out]; exact HS1.out, grownBy_trans HG.out HG1.out⟩
        by_cases k2 : byt b p = 92
        · have he := escM_bd b p hlt
          have HEL : Hid ((escM b p).1.length ≤ 4) := Lib.hid (by
            unfold escM
            split
            · split
              · exact (encR_len _).2
              · simp
            · split <;> simp)
          have HNF : Hid (TxtAt b p0 (escM b p).2.1 (acc ++ (escM b p).1) (notB (escM b p).2.2)) := Lib.hid (by
            cases ho : (escM b p).2.2 with
            | true => exact .inl ⟨rfl, by rw [HST.out, if_neg k1, if_pos k2, if_pos ho]⟩
            | false => exact .inr ⟨rfl, by rw [HST.out, if_neg k1, if_pos k2, if_neg (by rw [ho]; simp)]⟩)
          have HES := Lib.hid (fun W h1 h2 => resc_any g (.slice (some ⟨bb, off, none⟩) b.length cap) b p W h1 h2 hlt)
          unfold EscPost at HES
          have HQ1 : Hid (∀ W, Scn W g (.slice (some ⟨bb, off, none⟩) b.length cap) p false → Text W g (.slice (some ⟨bb, off, none⟩) b.length cap) b → Calls Try.prog 30 #[.pointer (some ⟨g, 0, none⟩), .string ⟨[34].toArray⟩] W fun e w' => e = .returned (.bool false) ∧ Scn w' g (.slice (some ⟨bb, off, none⟩) b.length cap) p false ∧ W.grownBy w' (some g)) := Lib.hid (fun W h1 h2 => by
            have h := take_any g (.slice (some ⟨bb, off, none⟩) b.length cap) b p false [34] W h1 h2 (by decide) (by omega)
            rw [isB_c (by decide) false (by simpa using k1)] at h
            exact h)
          have HQ2 : Hid (∀ W, Scn W g (.slice (some ⟨bb, off, none⟩) b.length cap) p false → Text W g (.slice (some ⟨bb, off, none⟩) b.length cap) b → Calls Try.prog 30 #[.pointer (some ⟨g, 0, none⟩), .string ⟨[92].toArray⟩] W fun e w' => e = .returned (.bool true) ∧ Scn w' g (.slice (some ⟨bb, off, none⟩) b.length cap) (p + 1) false ∧ W.grownBy w' (some g)) := Lib.hid (fun W h1 h2 => by
            have h := take_any g (.slice (some ⟨bb, off, none⟩) b.length cap) b p false [92] W h1 h2 (by decide) (by omega)
            rw [isB_c (by decide) true (by simpa using k2)] at h
            exact h)
          obtain ⟨R, hR⟩ : ∃ R, escM b p = R := ⟨_, rfl⟩
          rw [hR] at HES HEL HNF he
          clear hR k1 k2
          obtain ⟨eb, q, ok⟩ := R
          have he1 : p < q := he.1
          have he2 : q ≤ b.length := he.2
          have HEL2 : eb.length ≤ 4 := HEL.out
          have HES2 : Hid (∀ W, Scn W g (.slice (some ⟨bb, off, none⟩) b.length cap) (p + 1) false → Text W g (.slice (some ⟨bb, off, none⟩) b.length cap) b → Calls Try.prog 52 #[.pointer (some ⟨g, 0, none⟩)] W fun e w' => ∃ v', e = .returned v' ∧ Own w' W.heap.size 5 v' (eb.map u8V) ∧ Scn w' g (.slice (some ⟨bb, off, none⟩) b.length cap) q (notB ok) ∧ W.grownBy w' (some g)) := Lib.hid HES.out
          have HF : Hid (TxtAt b p0 q (acc ++ eb) (notB ok)) := Lib.hid HNF.out
          have hlen2 : (acc ++ eb).length ≤ 4 * q := by simp; omega
          have hone2 : ∀ j, j < eb.length → (u8At eb j).oneCell' = true := fun _ _ => rfl
          have hc4 : ((acc.map u8V).length + eb.length) * 1 ≤ 140737488355328 := by simp; omega
          have hc5 : (acc.map u8V).length + eb.length ≤ 9223372036854775807 := by simp; omega
          clear he HES HNF HEL
          go_wp2_with fail
          go_quiet (fail)
          go_wp2_with fail
          refine (HQ1.out _ (Box.drew HSr.out _) (HTr.out.grown (grownBy_drew _ _ _))).mono ?_
          rintro e x1 ⟨rfl, hs1, hg1⟩
          have HG1 := Lib.hid (grownBy_trans (grownBy_drew wr _ (some g)) hg1)
          have HS1 := Lib.hid hs1
          clear hs1 hg1
          go_wp2_with fail
          refine (HQ2.out _ HS1.out (HTr.out.grown HG1.out)).mono ?_
          rintro e x2 ⟨rfl, hs2, hg2⟩
          have HG2 := Lib.hid (grownBy_trans HG1.out hg2)
          have HS2 := Lib.hid hs2
          clear hs2 hg2
          go_wp2_with fail
          refine (HES2.out _ HS2.out (HTr.out.grown HG2.out)).mono ?_
          rintro e x3 ⟨v3, rfl, ho3, hs3, hg3⟩
          have HG3 := Lib.hid (grownBy_trans HG2.out hg3)
          have HS3 := Lib.hid hs3
          have HV3 := Lib.hid ho3.is8
          have HW3 := Lib.hid (Own.kept HOW.out HG3.out (.inr (HOW.out.neScn HSr.out)))
          have HG4 := Lib.hid (grownBy_trans HG.out HG3.out)
          have hsz : w.heap.size ≤ x3.heap.size := HG4.out.size
          clear hs3 hg3 ho3
          go_wp2_with (at_builtin; refine wpList_appS _ rfl _ _ 22 rfl w.heap.size 5 (.int .u8 0) 1 ok8 _ _ rfl HW3.out _ _ _ rfl HV3.out hone2 hc4 hc5 hsz ?_)
          intro v4 w4 hown4 hgr4
          rw [u8At_range, ← List.map_append] at hown4
          have HS4 := Lib.hid (Box.grown HS3.out hgr4 (HW3.out.neScn HS3.out))
          have HW4 := Lib.hid hown4
          have HG5 := Lib.hid (grown_own HG4.out hgr4 (fun k hk => (HW3.out.row k hk).1))
          clear hown4 hgr4
          go_wp2_with fail
          exact ⟨⟨q, acc ++ eb, notB ok, he2, hlen2, HF, HW4.out, HS4.out, HG5.out⟩, by rw [leftS_eq HS4.out, leftS_eq HSr.out]; cases ok <;> simp [notB] <;> omega⟩
        have hnb := nextL_n (b.drop p) (by simp; omega)
        have hll : (b.drop p).length = b.length - p := by simp
        have hcp : p < cap := by omega
        have H8 : Hid (Is8 wr (.slice (some ⟨bb, off + p, none⟩) (b.length - p) (cap - p)) (b.drop p)) := Lib.hid (Is8.dropAt HC.out p hlt h1 hmaxc)
        have HNX := Lib.hid (fun W (hW : Is8 W (.slice (some ⟨bb, off + p, none⟩) (b.length - p) (cap - p)) (b.drop p)) => rnext_any _ (b.drop p) W hW (by simp; omega))
        have HNF : Hid ((nextL (b.drop p)).2.2 = true → strM b p0 [] = strM b (p + (nextL (b.drop p)).2.1) (acc ++ sub8 b p (p + (nextL (b.drop p)).2.1))) := Lib.hid (fun ho => by
          rw [HST.out, if_neg k1, if_neg k2, if_neg k3, if_pos ho])
        have HNO : Hid ((nextL (b.drop p)).2.2 = false → strM b p0 [] = ([], p, false)) := Lib.hid (fun ho => by
          rw [HST.out, if_neg k1, if_neg k2, if_neg k3, if_neg (by rw [ho]; simp)])
        have HQ1 : Hid (∀ W, Scn W g (.slice (some ⟨bb, off, none⟩) b.length cap) p false → Text W g (.slice (some ⟨bb, off, none⟩) b.length cap) b → Calls Try.prog 30 #[.pointer (some ⟨g, 0, none⟩), .string ⟨[34].toArray⟩] W fun e w' => e = .returned (.bool false) ∧ Scn w' g (.slice (some ⟨bb, off, none⟩) b.length cap) p false ∧ W.grownBy w' (some g)) := Lib.hid (fun W h1 h2 => by
          have h := take_any g (.slice (some ⟨bb, off, none⟩) b.length cap) b p false [34] W h1 h2 (by decide) (by omega)
          rw [isB_c (by decide) false (by simpa using k1)] at h
          exact h)
        have HQ2 : Hid (∀ W, Scn W g (.slice (some ⟨bb, off, none⟩) b.length cap) p false → Text W g (.slice (some ⟨bb, off, none⟩) b.length cap) b → Calls Try.prog 30 #[.pointer (some ⟨g, 0, none⟩), .string ⟨[92].toArray⟩] W fun e w' => e = .returned (.bool false) ∧ Scn w' g (.slice (some ⟨bb, off, none⟩) b.length cap) p false ∧ W.grownBy w' (some g)) := Lib.hid (fun W h1 h2 => by
          have h := take_any g (.slice (some ⟨bb, off, none⟩) b.length cap) b p false [92] W h1 h2 (by decide) (by omega)
          rw [isB_c (by decide) false (by simpa using k2)] at h
          exact h)
        obtain ⟨R, hR⟩ : ∃ R, nextL (b.drop p) = R := ⟨_, rfl⟩
        rw [hR] at HNX HNF HNO hnb
        clear hR k1 k2
        obtain ⟨r, m, ok⟩ := R
        have hnb1 : 1 ≤ m := hnb.1
        have hnb2 : m ≤ b.length - p := by have : m ≤ (b.drop p).length := hnb.2.1; omega
        have HX2 : Hid (∀ W, Is8 W (.slice (some ⟨bb, off + p, none⟩) (b.length - p) (cap - p)) (b.drop p) → Calls Try.prog 32 #[.slice (some ⟨bb, off + p, none⟩) (b.length - p) (cap - p)] W fun e w' => e = .returned (.tuple #[.int .i32 r, .int .i64 (m : Nat), .bool ok]) ∧ ∃ n, w' = W.drewN n) := Lib.hid HNX.out
        have HF2 : Hid (ok = true → strM b p0 [] = strM b (p + m) (acc ++ sub8 b p (p + m))) := Lib.hid HNF.out
        have HO2' : Hid (ok = false → strM b p0 [] = ([], p, false)) := Lib.hid HNO.out
        have q0 : (cap - p == 0) = false := by rw [beq_eq_false_iff_ne]; omega
        have q1 : ¬ cap - p = 0 := by omega
        have q2 : ¬ cap ≤ p := by omega
        clear hnb HNX HNF HNO
        cases ok with
        | false =>
          have HF := Lib.hid (HO2'.out rfl)
          go_wp2_with fail
          go_quiet (fail)
          go_wp2_with fail
          refine (HQ1.out _ (Box.drew HSr.out _) (HTr.out.grown (grownBy_drew _ _ _))).mono ?_
          rintro e x1 ⟨rfl, hs1, hg1⟩
          have HG1 := Lib.hid (grownBy_trans (grownBy_drew wr _ (some g)) hg1)
          have HS1 := Lib.hid hs1
          clear hs1 hg1
          go_wp2_with fail
          refine (HQ2.out _ HS1.out (HTr.out.grown HG1.out)).mono ?_
          rintro e x2 ⟨rfl, hs2, hg2⟩
          have HG2 := Lib.hid (grownBy_trans HG1.out hg2)
          have HS2 := Lib.hid hs2
          have e0 : x2.cell? ⟨g, 0, none⟩ = some (.slice (some ⟨bb, off, none⟩) b.length cap) := hs2.c0
          have e1 : x2.cell? ⟨g, 1, none⟩ = some (.int .i64 p) := hs2.c1
          have e2 : x2.cell? ⟨g, 2, none⟩ = some (.bool false) := hs2.c2
          have e4 : x2.frozen? ⟨g, 2, none⟩ = false := Box.frozen hs2 2
          have H82 := Lib.hid (H8.out.grown HG2.out (fun hn bb2 off2 l c e => by
            injection e with e3; injection e3 with e5; injection e5 with e6; subst e6
            intro e7; injection e7 with e8
            exact HTr.out.ne (by omega) bb off _ _ rfl e8.symm))
          clear hs2 hg2
          go_wp2_with fail
          go_quiet ((go_at_call 32; exact Calls.quiet_of (HX2.out _ H82.out)))
          go_wp2_with fail
          go_ret
          exact ⟨by rw [HF.out]; rfl, by rw [HF.out]; exact Scn.bad HS2.out _, grownBy_trans HG.out (grown_to HG2.out _ _ _)⟩
        | true =>
          have HF : Hid (TxtAt b p0 (p + m) (acc ++ sub8 b p (p + m)) false) := Lib.hid (.inl ⟨rfl, HF2.out rfl⟩)
          go_wp2_with fail
          go_quiet (fail)
          go_wp2_with fail
          refine (HQ1.out _ (Box.drew HSr.out _) (HTr.out.grown (grownBy_drew _ _ _))).mono ?_
          rintro e x1 ⟨rfl, hs1, hg1⟩
          have HG1 := Lib.hid (grownBy_trans (grownBy_drew wr _ (some g)) hg1)
          have HS1 := Lib.hid hs1
          clear hs1 hg1
          go_wp2_with fail
          refine (HQ2.out _ HS1.out (HTr.out.grown HG1.out)).mono ?_
          rintro e x2 ⟨rfl, hs2, hg2⟩
          have HG2 := Lib.hid (grownBy_trans HG1.out hg2)
          have HS2 := Lib.hid hs2
          have e0 : x2.cell? ⟨g, 0, none⟩ = some (.slice (some ⟨bb, off, none⟩) b.length cap) := hs2.c0
          have e1 : x2.cell? ⟨g, 1, none⟩ = some (.int .i64 p) := hs2.c1
          have e2 : x2.cell? ⟨g, 2, none⟩ = some (.bool false) := hs2.c2
          have e4 : x2.frozen? ⟨g, 1, none⟩ = false := Box.frozen hs2 1
          have HW2 := Lib.hid (Own.kept HOW.out HG2.out (.inr (HOW.out.neScn HSr.out)))
          have HC2 := Lib.hid (HC.out.grown (by omega) HG2.out (fun e7 => by injection e7 with e8; exact HTr.out.ne (by omega) bb off _ _ rfl e8.symm))
          have HB2 := Lib.hid (Is8.subAt HC2.out p (p + m) (by omega) (by omega) h1 hmaxc)
          have hsl := sub8_len (b := b) (f := p) (t := p + m) (by omega) (by omega)
          have H82 := Lib.hid (H8.out.grown HG2.out (fun hn bb2 off2 l c e => by
            injection e with e3; injection e3 with e5; injection e5 with e6; subst e6
            intro e7; injection e7 with e8
            exact HTr.out.ne (by omega) bb off _ _ rfl e8.symm))
          clear hs2 hg2
          go_wp2_with fail
          go_quiet ((go_at_call 32; exact Calls.quiet_of (HX2.out _ H82.out)))
          go_wp2_with fail
          have g1 : IntKind.i64.wrap ((p : Int) + (m : Int)) = (p : Int) + (m : Int) := IntWalk.i64_in _ (by omega)
          have g2 : ((p : Int) + (m : Int)).toNat = p + m := by omega
          have g3 : (0 : Int) ≤ (p : Int) + (m : Int) := by omega
          have g4 : (p : Int) ≤ (p : Int) + (m : Int) := by omega
          have g5 : (p : Int) + (m : Int) ≤ (cap : Int) := by omega
          have q3 : ¬ cap = p := by omega
          have hlen2 : (acc ++ sub8 b p (p + m)).length ≤ 4 * (p + m) := by simp; omega
          have hone2 : ∀ j, j < (sub8 b p (p + m)).length → (u8At (sub8 b p (p + m)) j).oneCell' = true := fun _ _ => rfl
          have hc4 : ((acc.map u8V).length + (sub8 b p (p + m)).length) * 1 ≤ 140737488355328 := by simp; omega
          have hc5 : (acc.map u8V).length + (sub8 b p (p + m)).length ≤ 9223372036854775807 := by simp; omega
          have HG4 := Lib.hid (grownBy_trans HG.out HG2.out)
          have hsz : w.heap.size ≤ x2.heap.size := HG4.out.size
          have HB3 : Hid (Is8 x2 (.slice (some ⟨bb, off + p, none⟩) m (cap - p)) (sub8 b p (p + m))) := Lib.hid (by have h := HB2.out; rw [show p + m - p = m by omega] at h; exact h)
          have hpm : p + m ≤ b.length := by omega
          have HL := Lib.hid hsl
          clear hsl HB2
          go_region_law (refine step_appS _ rfl _ _ 22 rfl w.heap.size 5 (.int .u8 0) 1 ok8 u3 (acc.map u8V) (by simp [Act.eval, Act.put]) (by exact HW2.out) (.slice (some ⟨bb, off + p, none⟩) m (cap - p)) _ _ (by simp [Act.eval, Act.put]) (by exact HB3.out) hone2 hc4 hc5 (by exact hsz) ?_; intro v4 w4 hown4 hgr4)
          all_goals
            rw [u8At_range, ← List.map_append] at hown4
            have HG4' := Lib.hid (grownBy_trans HG4.out (grownBy_drew x2 (nq + 1) (some g)))
            have hgr5 : x2.grownBy w4 u3.ownBlock := ⟨hgr4.os, hgr4.tape, hgr4.output, hgr4.size, hgr4.block⟩
            have hs4 := Box.grown HS2.out hgr5 (HW2.out.neScn HS2.out)
            have HS4 := Lib.hid hs4
            have HW4 := Lib.hid hown4
            have HG5 := Lib.hid (grown_own HG4.out hgr5 (fun k hk => (HW2.out.row k hk).1))
            have e5 : w4.cell? ⟨g, 1, none⟩ = some (.int .i64 p) := Scn.c1 hs4
            have e6 : w4.frozen? ⟨g, 1, none⟩ = false := Box.frozen hs4 1
            clear hown4 hgr4 hgr5 hs4 g1 g2 g3 g4 g5
            go_wp2_with fail
            exact ⟨⟨p + m, acc ++ sub8 b p (p + m), false, hpm, hlen2, HF, Own.kept HW4.out (grownBy_set w4 g 1 _) (.inr (HW4.out.neScn HS4.out)), Scn.to1 HS4.out (p + m) _ (by omega), grown_to0 HG5.out 1 _⟩, by rw [leftS_eq (Scn.to1 HS4.out (p + m) _ (by omega)), leftS_eq HSr.out]; simp; omega⟩
      · have HF : Hid (TxtAt b p0 p acc true) := Lib.hid (.inr ⟨rfl, by rw [HE2.out, strM_end b p _ (by omega)]⟩)
        have hgd : decide (b.length ≤ p) = true := by simp; omega
        clear h4
        go_wp2_with fail
        go_quiet (fail)
        go_wp2_with fail
        exact ⟨⟨p, acc, true, hpl, hacc, HF, Own.kept HOW.out (grown_to (grown_refl _ (some g)) _ 2 _) (.inr (HOW.out.neScn HSr.out)), Scn.bad HSr.out _, grown_to HG.out _ 2 _⟩, by rw [leftS_eq (Scn.bad HSr.out _), leftS_eq HSr.out]; simp⟩
end Go.Proofs.Ytkdmmmheciffgaa
