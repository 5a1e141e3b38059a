import Derived.IntWalk
import Derived.Test.YtncfmmpdlcnboaaTq10
import Derived.Test.YtncfmmpdlcnboaaTq13
import Derived.Test.YtncfmmpdlcnboaaTq14
set_option linter.unusedVariables false
set_option linter.unusedSimpArgs false
namespace Go.Proofs.Ytncfmmpdlcnboaa
open Go.RowKit
def leftS (g m : Nat) (w : World) : Nat := match w.cell? ⟨g, 1, none⟩, w.cell? ⟨g, 2, none⟩ with | some (.int _ x), some (.bool t) => 2 * (m - x.toNat) + (if t = true then 0 else 1) | _, _ => 0
theorem leftS_eq {w : World} {g : Nat} {vb : Value} {i : Nat} {bad : Bool} (h : Scn w g vb i bad) (m : Nat) : leftS g m w = 2 * (m - i) + (if bad = true then 0 else 1) := by
  unfold leftS; rw [h.c1, h.c2]; simp
def TxtAt (b : List UInt8) (p0 p : Nat) (acc : List UInt8) (bad : Bool) : Prop := (bad = false ∧ strM b p0 [] = strM b p acc) ∨ (bad = true ∧ strM b p0 [] = ([], p, false))
theorem Own.neScn {w : World} {B : Nat} {v : Value} {xs : List Value} (h : Own w B 5 v xs) {g : Nat} {cs : List Value} (hb : Box w g 55 cs) : v.ownBlock ≠ some g := by
  rcases h.2 with ⟨rfl, _⟩ | ⟨g2, cap, cur, rfl, _, hh, _⟩
  · simp [Value.ownBlock]
  · intro e
    have e : g2 = g := by simpa [Value.ownBlock] using e
    subst e
    have hb2 : w.heap[g2]? = some (.cells cs.toArray 55 (0, 0)) := hb
    rw [hh] at hb2
    injection hb2 with hb3
    injection hb3 with _ h4 _
    exact absurd h4 (by decide)
theorem isB_c {b : List UInt8} {p : Nat} {c : UInt8} (hc : (c.toNat : Int) ≠ 0) (t : Bool) (h : (byt b p == (c.toNat : Int)) = t) : isB b false p [c] = t := by rw [isB_one hc, h]
theorem grown_own {w wr w' : World} {v : Value} {row : Option Nat} (h : w.grownBy wr row) (hg : wr.grownBy w' v.ownBlock) (hv : ∀ k, v.ownBlock = some k → w.heap.size ≤ k) : w.grownBy w' row :=
  ⟨hg.os.trans h.os, hg.tape.trans h.tape, hg.output.trans h.output, Nat.le_trans h.size hg.size, fun i hi hr => (hg.block i (Nat.lt_of_lt_of_le hi h.size) (fun e => by have := hv i e.symm; omega)).trans (h.block i hi hr)⟩
theorem Scn.to1 {w : World} {g : Nat} {vb : Value} {i : Nat} {bad : Bool} (h : Scn w g vb i bad) (j : Nat) (x : Int) (hx : x = (j : Int)) : Scn (w.setCell ⟨g, 1, none⟩ (.int .i64 x)) g vb j bad := by
  subst hx
  exact Box.set h 1 (by simp) _
set_option maxRecDepth 100000 in
set_option maxHeartbeats 16000000 in
theorem rtext_any (g : Nat) (vb : Value) (b : List UInt8) (p0 : Nat) (w : World) (hs : Scn w g vb p0 false) (ht : Text w g vb b) (hp0 : p0 ≤ b.length) :
    Calls Try.prog 34 #[.pointer (some ⟨g, 0, none⟩)] w fun e w' => e = .returned (.string ⟨(strM b p0 []).1.toArray⟩) ∧ Scn w' g vb (strM b p0 []).2.1 (notB (strM b p0 []).2.2) ∧ w.grownBy w' (some g) := by
  have hm := ht.le
  have HT := Lib.hid ht
  have HS := Lib.hid hs
  clear hs ht
  go_enter Try.func34, Try.ntmps34
  go_wp2_with fail
  go_loopw [3] (fun t3 wr => ∃ (p : Nat) (acc : List UInt8) (bad : Bool), p ≤ b.length ∧ acc.length ≤ 4 * p ∧ Hid (TxtAt b p0 p acc bad) ∧ Own wr w.heap.size 5 t3 (acc.map u8V) ∧ Scn wr g vb p bad ∧ w.grownBy wr (some g)) (fun _ wr => leftS g b.length wr)
  case atStart => exact ⟨p0, [], false, hp0, by simp, Lib.hid (.inl ⟨rfl, rfl⟩), Own.nil _ _ _, HS.out, grown_refl _ _⟩
  case round =>
    obtain ⟨p, acc, bad, hpl, hacc, HE, how, hs, hg⟩ := hrel
    have HOW := Lib.hid how
    have HSr := Lib.hid hs
    have HG := Lib.hid hg
    have HTr := Lib.hid (HT.out.grown hg)
    have d0 : wr.cell? ⟨g, 0, none⟩ = some vb := hs.c0
    have d1 : wr.cell? ⟨g, 1, none⟩ = some (.int .i64 p) := hs.c1
    have d2 : wr.cell? ⟨g, 2, none⟩ = some (.bool bad) := hs.c2
    have f1 : wr.frozen? ⟨g, 1, none⟩ = false := Box.frozen hs 1
    have f2 : wr.frozen? ⟨g, 2, none⟩ = false := Box.frozen hs 2
    clear how hs hg
    cases bad with
    | true =>
      have HF : Hid (strM b p0 [] = ([], p, false)) := Lib.hid (by
        rcases HE.out with ⟨h, -⟩ | ⟨-, h⟩
        · cases h
        · exact h)
      go_wp2_with fail
      go_ret
      exact ⟨by rw [HF.out]; rfl, by rw [HF.out]; exact HSr.out, HG.out⟩
    | false =>
      have HE2 : Hid (strM b p0 [] = strM b p acc) := Lib.hid (by
        rcases HE.out with ⟨-, h⟩ | ⟨h, -⟩
        · exact h
        · cases h)
      clear HE
      obtain ⟨a, cap, e, h1, h2, -, h4⟩ := HTr.out.is
      subst e
      have hmaxc := h2
      unfold maxLen at h2
      by_cases hlt : p < b.length
      · obtain ⟨bb, off, rfl, hc⟩ := h4 (by omega)
        have hcell : wr.cell? ⟨bb, off + p, none⟩ = some (.int .u8 (byt b p)) := hc.at p hlt
        have hltI : (p : Int) < (b.length : Int) := by omega
        have hgd : decide (b.length ≤ p) = false := by simp; omega
        have HC := Lib.hid hc
        have HST := Lib.hid (HE2.out.trans (strM_step b p acc hlt))
        clear hc h4
        by_cases k3 : byt b p < 32
        · have HF : Hid (TxtAt b p0 p acc true) := Lib.hid (.inr ⟨rfl, by
            rw [HST.out, if_neg (by omega), if_neg (by omega), if_pos k3]⟩)
          go_wp2_with fail
          go_quiet (fail)
          go_wp2_with fail
          exact ⟨⟨p, acc, true, hpl, hacc, HF, Own.kept HOW.out (grown_to (grown_refl _ (some g)) _ 2 _) (.inr (HOW.out.neScn HSr.out)), Scn.bad HSr.out _, grown_to HG.out _ 2 _⟩, by rw [leftS_eq (Scn.bad HSr.out _), leftS_eq HSr.out]; simp⟩
        have k3' : 32 ≤ byt b p := by omega
        by_cases k1 : byt b p = 34
        · have HF : Hid (strM b p0 [] = (acc, p + 1, true)) := Lib.hid (by rw [HST.out, if_pos k1])
          have HQ1 : Hid (∀ W, Scn W g (.slice (some ⟨bb, off, none⟩) b.length cap) p false → Text W g (.slice (some ⟨bb, off, none⟩) b.length cap) b → Calls Try.prog 22 #[.pointer (some ⟨g, 0, none⟩), .string ⟨[34].toArray⟩] W fun e w' => e = .returned (.bool true) ∧ Scn w' g (.slice (some ⟨bb, off, none⟩) b.length cap) (p + 1) false ∧ W.grownBy w' (some g)) := Lib.hid (fun W h1 h2 => by
            have h := take_any g (.slice (some ⟨bb, off, none⟩) b.length cap) b p false [34] W h1 h2 (by decide) (by omega)
            rw [isB_c (by decide) true (by simpa using k1)] at h
            exact h)
          clear k1
          go_wp2_with fail
          go_quiet (fail)
          go_wp2_with fail
          refine (HQ1.out _ (Box.drew HSr.out _) (HTr.out.grown (grownBy_drew _ _ _))).mono ?_
          rintro e x1 ⟨rfl, hs1, hg1⟩
          have HG1 := Lib.hid (grownBy_trans (grownBy_drew wr _ (some g)) hg1)
          have HS1 := Lib.hid hs1
          have HW1 := Lib.hid ((Own.kept HOW.out HG1.out (.inr (HOW.out.neScn HSr.out))).is8)
          clear hs1 hg1
          go_wp2_with (refine wpList_toStr _ (by rfl) _ _ _ rfl 5 Try.underlying29 Try.underlying5 Try.underlying9 _ rfl _ HW1.out ?_)
          go_ret
          exact ⟨by rw [HF.out]; rfl, by rw [HF.out]; exact HS1.out, grownBy_trans HG.out HG1.out⟩
        by_cases k2 : byt b p = 92
        · have he := escM_bd b p hlt
          have HEL : Hid ((escM b p).1.length ≤ 4) := Lib.hid (by
            unfold escM
            split
            · split
              · exact (encR_len _).2
              · simp
            · split <;> simp)
          have HNF : Hid (TxtAt b p0 (escM b p).2.1 (acc ++ (escM b p).1) (notB (escM b p).2.2)) := Lib.hid (by
            cases ho : (escM b p).2.2 with
            | true => exact .inl ⟨rfl, by rw [HST.out, if_neg k1, if_pos k2, if_pos ho]⟩
            | false => exact .inr ⟨rfl, by rw [HST.out, if_neg k1, if_pos k2, if_neg (by rw [ho]; simp)]⟩)
          have HES := Lib.hid (fun W h1 h2 => resc_any g (.slice (some ⟨bb, off, none⟩) b.length cap) b p W h1 h2 hlt)
          unfold EscPost at HES
          have HQ1 : Hid (∀ W, Scn W g (.slice (some ⟨bb, off, none⟩) b.length cap) p false → Text W g (.slice (some ⟨bb, off, none⟩) b.length cap) b → Calls Try.prog 22 #[.pointer (some ⟨g, 0, none⟩), .string ⟨[34].toArray⟩] W fun e w' => e = .returned (.bool false) ∧ Scn w' g (.slice (some ⟨bb, off, none⟩) b.length cap) p false ∧ W.grownBy w' (some g)) := Lib.hid (fun W h1 h2 => by
            have h := take_any g (.slice (some ⟨bb, off, none⟩) b.length cap) b p false [34] W h1 h2 (by decide) (by omega)
            rw [isB_c (by decide) false (by simpa using k1)] at h
            exact h)
          have HQ2 : Hid (∀ W, Scn W g (.slice (some ⟨bb, off, none⟩) b.length cap) p false → Text W g (.slice (some ⟨bb, off, none⟩) b.length cap) b → Calls Try.prog 22 #[.pointer (some ⟨g, 0, none⟩), .string ⟨[92].toArray⟩] W fun e w' => e = .returned (.bool true) ∧ Scn w' g (.slice (some ⟨bb, off, none⟩) b.length cap) (p + 1) false ∧ W.grownBy w' (some g)) := Lib.hid (fun W h1 h2 => by
            have h := take_any g (.slice (some ⟨bb, off, none⟩) b.length cap) b p false [92] W h1 h2 (by decide) (by omega)
            rw [isB_c (by decide) true (by simpa using k2)] at h
            exact h)
          obtain ⟨R, hR⟩ : ∃ R, escM b p = R := ⟨_, rfl⟩
          rw [hR] at HES HEL HNF he
          clear hR k1 k2
          obtain ⟨eb, q, ok⟩ := R
          have he1 : p < q := he.1
          have he2 : q ≤ b.length := he.2
          have HEL2 : eb.length ≤ 4 := HEL.out
          have HES2 : Hid (∀ W, Scn W g (.slice (some ⟨bb, off, none⟩) b.length cap) (p + 1) false → Text W g (.slice (some ⟨bb, off, none⟩) b.length cap) b → Calls Try.prog 44 #[.pointer (some ⟨g, 0, none⟩)] W fun e w' => ∃ v', e = .returned v' ∧ Own w' W.heap.size 5 v' (eb.map u8V) ∧ Scn w' g (.slice (some ⟨bb, off, none⟩) b.length cap) q (notB ok) ∧ W.grownBy w' (some g)) := Lib.hid HES.out
          have HF : Hid (TxtAt b p0 q (acc ++ eb) (notB ok)) := Lib.hid HNF.out
          have hlen2 : (acc ++ eb).length ≤ 4 * q := by simp; omega
          have hone2 : ∀ j, j < eb.length → (u8At eb j).oneCell' = true := fun _ _ => rfl
          have hc4 : ((acc.map u8V).length + eb.length) * 1 ≤ 140737488355328 := by simp; omega
          have hc5 : (acc.map u8V).length + eb.length ≤ 9223372036854775807 := by simp; omega
          clear he HES HNF HEL
          go_wp2_with fail
          go_quiet (fail)
          go_wp2_with fail
          refine (HQ1.out _ (Box.drew HSr.out _) (HTr.out.grown (grownBy_drew _ _ _))).mono ?_
          rintro e x1 ⟨rfl, hs1, hg1⟩
          have HG1 := Lib.hid (grownBy_trans (grownBy_drew wr _ (some g)) hg1)
          have HS1 := Lib.hid hs1
          clear hs1 hg1
          go_wp2_with fail
          refine (HQ2.out _ HS1.out (HTr.out.grown HG1.out)).mono ?_
          rintro e x2 ⟨rfl, hs2, hg2⟩
          have HG2 := Lib.hid (grownBy_trans HG1.out hg2)
          have HS2 := Lib.hid hs2
          clear hs2 hg2
          go_wp2_with fail
          refine (HES2.out _ HS2.out (HTr.out.grown HG2.out)).mono ?_
          rintro e x3 ⟨v3, rfl, ho3, hs3, hg3⟩
          have HG3 := Lib.hid (grownBy_trans HG2.out hg3)
          have HS3 := Lib.hid hs3
          have HV3 := Lib.hid ho3.is8
          have HW3 := Lib.hid (Own.kept HOW.out HG3.out (.inr (HOW.out.neScn HSr.out)))
          have HG4 := Lib.hid (grownBy_trans HG.out HG3.out)
          have hsz : w.heap.size ≤ x3.heap.size := HG4.out.size
          clear hs3 hg3 ho3
          go_wp2_with (at_builtin; refine wpList_appS _ rfl _ _ 29 rfl w.heap.size 5 (.int .u8 0) 1 ok8 _ _ rfl HW3.out _ _ _ rfl HV3.out hone2 hc4 hc5 hsz ?_)
          intro v4 w4 hown4 hgr4
          rw [u8At_range, ← List.map_append] at hown4
          have HS4 := Lib.hid (Box.grown HS3.out hgr4 (HW3.out.neScn HS3.out))
          have HW4 := Lib.hid hown4
          have HG5 := Lib.hid (grown_own HG4.out hgr4 (fun k hk => (HW3.out.row k hk).1))
          clear hown4 hgr4
          go_wp2_with fail
          exact ⟨⟨q, acc ++ eb, notB ok, he2, hlen2, HF, HW4.out, HS4.out, HG5.out⟩, by rw [leftS_eq HS4.out, leftS_eq HSr.out]; cases ok <;> simp [notB] <;> omega⟩
        have hnb := nextL_n (b.drop p) (by simp; omega)
        have hll : (b.drop p).length = b.length - p := by simp
        have hcp : p < cap := by omega
        have H8 : Hid (Is8 wr (.slice (some ⟨bb, off + p, none⟩) (b.length - p) (cap - p)) (b.drop p)) := Lib.hid (Is8.dropAt HC.out p hlt h1 hmaxc)
        have HNX := Lib.hid (fun W (hW : Is8 W (.slice (some ⟨bb, off + p, none⟩) (b.length - p) (cap - p)) (b.drop p)) => rnext_any _ (b.drop p) W hW (by simp; omega))
        have HNF : Hid ((nextL (b.drop p)).2.2 = true → strM b p0 [] = strM b (p + (nextL (b.drop p)).2.1) (acc ++ sub8 b p (p + (nextL (b.drop p)).2.1))) := Lib.hid (fun ho => by
          rw [HST.out, if_neg k1, if_neg k2, if_neg k3, if_pos ho])
        have HNO : Hid ((nextL (b.drop p)).2.2 = false → strM b p0 [] = ([], p, false)) := Lib.hid (fun ho => by
          rw [HST.out, if_neg k1, if_neg k2, if_neg k3, if_neg (by rw [ho]; simp)])
        have HQ1 : Hid (∀ W, Scn W g (.slice (some ⟨bb, off, none⟩) b.length cap) p false → Text W g (.slice (some ⟨bb, off, none⟩) b.length cap) b → Calls Try.prog 22 #[.pointer (some ⟨g, 0, none⟩), .string ⟨[34].toArray⟩] W fun e w' => e = .returned (.bool false) ∧ Scn w' g (.slice (some ⟨bb, off, none⟩) b.length cap) p false ∧ W.grownBy w' (some g)) := Lib.hid (fun W h1 h2 => by
          have h := take_any g (.slice (some ⟨bb, off, none⟩) b.length cap) b p false [34] W h1 h2 (by decide) (by omega)
          rw [isB_c (by decide) false (by simpa using k1)] at h
          exact h)
        have HQ2 : Hid (∀ W, Scn W g (.slice (some ⟨bb, off, none⟩) b.length cap) p false → Text W g (.slice (some ⟨bb, off, none⟩) b.length cap) b → Calls Try.prog 22 #[.pointer (some ⟨g, 0, none⟩), .string ⟨[92].toArray⟩] W fun e w' => e = .returned (.bool false) ∧ Scn w' g (.slice (some ⟨bb, off, none⟩) b.length cap) p false ∧ W.grownBy w' (some g)) := Lib.hid (fun W h1 h2 => by
          have h := take_any g (.slice (some ⟨bb, off, none⟩) b.length cap) b p false [92] W h1 h2 (by decide) (by omega)
          rw [isB_c (by decide) false (by simpa using k2)] at h
          exact h)
        obtain ⟨R, hR⟩ : ∃ R, nextL (b.drop p) = R := ⟨_, rfl⟩
        rw [hR] at HNX HNF HNO hnb
        clear hR k1 k2
        obtain ⟨r, m, ok⟩ := R
        have hnb1 : 1 ≤ m := hnb.1
        have hnb2 : m ≤ b.length - p := by have : m ≤ (b.drop p).length := hnb.2.1; omega
        have HX2 : Hid (∀ W, Is8 W (.slice (some ⟨bb, off + p, none⟩) (b.length - p) (cap - p)) (b.drop p) → Calls Try.prog 24 #[.slice (some ⟨bb, off + p, none⟩) (b.length - p) (cap - p)] W fun e w' => e = .returned (.tuple #[.int .i32 r, .int .i64 (m : Nat), .bool ok]) ∧ ∃ n, w' = W.drewN n) := Lib.hid HNX.out
        have HF2 : Hid (ok = true → strM b p0 [] = strM b (p + m) (acc ++ sub8 b p (p + m))) := Lib.hid HNF.out
        have HO2' : Hid (ok = false → strM b p0 [] = ([], p, false)) := Lib.hid HNO.out
        have q0 : (cap - p == 0) = false := by rw [beq_eq_false_iff_ne]; omega
        have q1 : ¬ cap - p = 0 := by omega
        have q2 : ¬ cap ≤ p := by omega
        clear hnb HNX HNF HNO
        cases ok with
        | false =>
          have HF := Lib.hid (HO2'.out rfl)
          go_wp2_with fail
          go_quiet (fail)
          go_wp2_with fail
          refine (HQ1.out _ (Box.drew HSr.out _) (HTr.out.grown (grownBy_drew _ _ _))).mono ?_
          rintro e x1 ⟨rfl, hs1, hg1⟩
          have HG1 := Lib.hid (grownBy_trans (grownBy_drew wr _ (some g)) hg1)
          have HS1 := Lib.hid hs1
          clear hs1 hg1
          go_wp2_with fail
          refine (HQ2.out _ HS1.out (HTr.out.grown HG1.out)).mono ?_
          rintro e x2 ⟨rfl, hs2, hg2⟩
          have HG2 := Lib.hid (grownBy_trans HG1.out hg2)
          have HS2 := Lib.hid hs2
          have e0 : x2.cell? ⟨g, 0, none⟩ = some (.slice (some ⟨bb, off, none⟩) b.length cap) := hs2.c0
          have e1 : x2.cell? ⟨g, 1, none⟩ = some (.int .i64 p) := hs2.c1
          have e2 : x2.cell? ⟨g, 2, none⟩ = some (.bool false) := hs2.c2
          have e4 : x2.frozen? ⟨g, 2, none⟩ = false := Box.frozen hs2 2
          have H82 := Lib.hid (H8.out.grown HG2.out (fun hn bb2 off2 l c e => by
            injection e with e3; injection e3 with e5; injection e5 with e6; subst e6
            intro e7; injection e7 with e8
            exact HTr.out.ne (by omega) bb off _ _ rfl e8.symm))
          clear hs2 hg2
          go_wp2_with fail
          go_quiet ((go_at_call 24; exact Calls.quiet_of (HX2.out _ H82.out)))
          go_wp2_with fail
          go_ret
          exact ⟨by rw [HF.out]; rfl, by rw [HF.out]; exact Scn.bad HS2.out _, grownBy_trans HG.out (grown_to HG2.out _ _ _)⟩
        | true =>
          have HF : Hid (TxtAt b p0 (p + m) (acc ++ sub8 b p (p + m)) false) := Lib.hid (.inl ⟨rfl, HF2.out rfl⟩)
          go_wp2_with fail
          go_quiet (fail)
          go_wp2_with fail
          refine (HQ1.out _ (Box.drew HSr.out _) (HTr.out.grown (grownBy_drew _ _ _))).mono ?_
          rintro e x1 ⟨rfl, hs1, hg1⟩
          have HG1 := Lib.hid (grownBy_trans (grownBy_drew wr _ (some g)) hg1)
          have HS1 := Lib.hid hs1
          clear hs1 hg1
          go_wp2_with fail
          refine (HQ2.out _ HS1.out (HTr.out.grown HG1.out)).mono ?_
          rintro e x2 ⟨rfl, hs2, hg2⟩
          have HG2 := Lib.hid (grownBy_trans HG1.out hg2)
          have HS2 := Lib.hid hs2
          have e0 : x2.cell? ⟨g, 0, none⟩ = some (.slice (some ⟨bb, off, none⟩) b.length cap) := hs2.c0
          have e1 : x2.cell? ⟨g, 1, none⟩ = some (.int .i64 p) := hs2.c1
          have e2 : x2.cell? ⟨g, 2, none⟩ = some (.bool false) := hs2.c2
          have e4 : x2.frozen? ⟨g, 1, none⟩ = false := Box.frozen hs2 1
          have HW2 := Lib.hid (Own.kept HOW.out HG2.out (.inr (HOW.out.neScn HSr.out)))
          have HC2 := Lib.hid (HC.out.grown (by omega) HG2.out (fun e7 => by injection e7 with e8; exact HTr.out.ne (by omega) bb off _ _ rfl e8.symm))
          have HB2 := Lib.hid (Is8.subAt HC2.out p (p + m) (by omega) (by omega) h1 hmaxc)
          have hsl := sub8_len (b := b) (f := p) (t := p + m) (by omega) (by omega)
          have H82 := Lib.hid (H8.out.grown HG2.out (fun hn bb2 off2 l c e => by
            injection e with e3; injection e3 with e5; injection e5 with e6; subst e6
            intro e7; injection e7 with e8
            exact HTr.out.ne (by omega) bb off _ _ rfl e8.symm))
          clear hs2 hg2
          go_wp2_with fail
          go_quiet ((go_at_call 24; exact Calls.quiet_of (HX2.out _ H82.out)))
          go_wp2_with fail
          have g1 : IntKind.i64.wrap ((p : Int) + (m : Int)) = (p : Int) + (m : Int) := IntWalk.i64_in _ (by omega)
          have g2 : ((p : Int) + (m : Int)).toNat = p + m := by omega
          have g3 : (0 : Int) ≤ (p : Int) + (m : Int) := by omega
          have g4 : (p : Int) ≤ (p : Int) + (m : Int) := by omega
          have g5 : (p : Int) + (m : Int) ≤ (cap : Int) := by omega
          have q3 : ¬ cap = p := by omega
          have hlen2 : (acc ++ sub8 b p (p + m)).length ≤ 4 * (p + m) := by simp; omega
          have hone2 : ∀ j, j < (sub8 b p (p + m)).length → (u8At (sub8 b p (p + m)) j).oneCell' = true := fun _ _ => rfl
          have hc4 : ((acc.map u8V).length + (sub8 b p (p + m)).length) * 1 ≤ 140737488355328 := by simp; omega
          have hc5 : (acc.map u8V).length + (sub8 b p (p + m)).length ≤ 9223372036854775807 := by simp; omega
          have HG4 := Lib.hid (grownBy_trans HG.out HG2.out)
          have hsz : w.heap.size ≤ x2.heap.size := HG4.out.size
          have HB3 : Hid (Is8 x2 (.slice (some ⟨bb, off + p, none⟩) m (cap - p)) (sub8 b p (p + m))) := Lib.hid (by have h := HB2.out; rw [show p + m - p = m by omega] at h; exact h)
          have hpm : p + m ≤ b.length := by omega
          have HL := Lib.hid hsl
          clear hsl HB2
          go_region_law (refine step_appS _ rfl _ _ 29 rfl w.heap.size 5 (.int .u8 0) 1 ok8 u3 (acc.map u8V) (by simp [Act.eval, Act.put]) (by exact HW2.out) (.slice (some ⟨bb, off + p, none⟩) m (cap - p)) _ _ (by simp [Act.eval, Act.put]) (by exact HB3.out) hone2 hc4 hc5 (by exact hsz) ?_; intro v4 w4 hown4 hgr4)
          all_goals
            rw [u8At_range, ← List.map_append] at hown4
            have HG4' := Lib.hid (grownBy_trans HG4.out (grownBy_drew x2 (nq + 1) (some g)))
            have hgr5 : x2.grownBy w4 u3.ownBlock := ⟨hgr4.os, hgr4.tape, hgr4.output, hgr4.size, hgr4.block⟩
            have hs4 := Box.grown HS2.out hgr5 (HW2.out.neScn HS2.out)
            have HS4 := Lib.hid hs4
            have HW4 := Lib.hid hown4
            have HG5 := Lib.hid (grown_own HG4.out hgr5 (fun k hk => (HW2.out.row k hk).1))
            have e5 : w4.cell? ⟨g, 1, none⟩ = some (.int .i64 p) := Scn.c1 hs4
            have e6 : w4.frozen? ⟨g, 1, none⟩ = false := Box.frozen hs4 1
            clear hown4 hgr4 hgr5 hs4 g1 g2 g3 g4 g5
            go_wp2_with fail
            exact ⟨⟨p + m, acc ++ sub8 b p (p + m), false, hpm, hlen2, HF, Own.kept HW4.out (grownBy_set w4 g 1 _) (.inr (HW4.out.neScn HS4.out)), Scn.to1 HS4.out (p + m) _ (by omega), grown_to0 HG5.out 1 _⟩, by rw [leftS_eq (Scn.to1 HS4.out (p + m) _ (by omega)), leftS_eq HSr.out]; simp; omega⟩
      · have HF : Hid (TxtAt b p0 p acc true) := Lib.hid (.inr ⟨rfl, by rw [HE2.out, strM_end b p _ (by omega)]⟩)
        have hgd : decide (b.length ≤ p) = true := by simp; omega
        clear h4
        go_wp2_with fail
        go_quiet (fail)
        go_wp2_with fail
        exact ⟨⟨p, acc, true, hpl, hacc, HF, Own.kept HOW.out (grown_to (grown_refl _ (some g)) _ 2 _) (.inr (HOW.out.neScn HSr.out)), Scn.bad HSr.out _, grown_to HG.out _ 2 _⟩, by rw [leftS_eq (Scn.bad HSr.out _), leftS_eq HSr.out]; simp⟩
theorem Scn.dr {w : World} {g : Nat} {vb : Value} {i : Nat} {bad : Bool} (h : Scn w g vb i bad) : Scn w.drew g vb i bad := h
theorem grown_dr {w wr : World} {row : Option Nat} (h : w.grownBy wr row) : w.grownBy wr.drew row := ⟨h.os, h.tape, h.output, h.size, h.block⟩
theorem Box.new2 (w : World) (o : Obj) (t : TypeId) (cs : List Value) : Box ((w.alloc o).alloc (.cells cs.toArray t)) (w.heap.size + 1) t cs := by
  have e : (w.alloc o).heap.size = w.heap.size + 1 := by simp
  have h := Box.new (w.alloc o) t cs
  rw [e] at h
  exact h
theorem Scn.off {w : World} {g : Nat} {vb : Value} {i : Nat} {bad : Bool} (h : Scn w g vb i bad) {R : Nat} (hr : R ≠ g) (k : Nat) (v : Value) : Scn (w.setCell ⟨R, k, none⟩ v) g vb i bad :=
  Box.grown h (grownBy_set w R k v) (fun e => hr (by injection e))
theorem Box.off {w : World} {g : Nat} {t : TypeId} {cs : List Value} (h : Box w g t cs) {R : Nat} (hr : R ≠ g) (k : Nat) (v : Value) : Box (w.setCell ⟨R, k, none⟩ v) g t cs :=
  Box.grown h (grownBy_set w R k v) (fun e => hr (by injection e))
theorem grown_new {w wr : World} {row : Option Nat} (h : w.grownBy wr row) {R : Nat} (hr : w.heap.size ≤ R) (k : Nat) (v : Value) : w.grownBy (wr.setCell ⟨R, k, none⟩ v) row := by
  have hg := grownBy_set wr R k v
  exact ⟨hg.os.trans h.os, hg.tape.trans h.tape, hg.output.trans h.output, Nat.le_trans h.size hg.size, fun i hi hx => (hg.block i (Nat.lt_of_lt_of_le hi h.size) (fun e => by injection e with e; omega)).trans (h.block i hi hx)⟩
def sigL : List UInt8 := [123, 125, 91, 93, 58, 44]
theorem sig_yes {c : Int} {j : Nat} (hj : j < 6) (h : byt sigL j = c) : sigB c = true ∧ signN c = 1 + (j : Int) := by
  subst h
  rcases (by omega : j = 0 ∨ j = 1 ∨ j = 2 ∨ j = 3 ∨ j = 4 ∨ j = 5) with rfl | rfl | rfl | rfl | rfl | rfl <;> decide
theorem sig_no {c : Int} (h : ∀ k, k < 6 → byt sigL k ≠ c) : sigB c = false := by
  have h0 : (123 : Int) ≠ c := h 0 (by decide)
  have h1 : (125 : Int) ≠ c := h 1 (by decide)
  have h2 : (91 : Int) ≠ c := h 2 (by decide)
  have h3 : (93 : Int) ≠ c := h 3 (by decide)
  have h4 : (58 : Int) ≠ c := h 4 (by decide)
  have h5 : (44 : Int) ≠ c := h 5 (by decide)
  unfold sigB
  rw [decide_eq_false_iff_not]
  omega
def SigNot (c : Int) (j : Nat) : Prop := ∀ k, k < j → byt sigL k ≠ c
theorem SigNot.next {c : Int} {j : Nat} (h : SigNot c j) (h2 : byt sigL j ≠ c) : SigNot c (j + 1) := by
  intro k hk
  rcases Nat.lt_or_ge k j with h3 | h3
  · exact h k h3
  · obtain rfl : k = j := by omega
    exact h2
theorem res_tok {x : World} {tmps : Array Value} {R : Nat} {a b c : Value} (hb : Box x R 40 [a, b, c]) (ht : tmps.getD 2 undef = .pointer (some ⟨R, 0, none⟩)) :
    (results Try.f23 tmps).run Try.prog x = .ok (.agg #[a, b, c]) x := by
  have f0 : x.cell? ⟨R, 0, none⟩ = some a := Box.cell hb 0
  have f1 : x.cell? ⟨R, 1, none⟩ = some b := Box.cell hb 1
  have f2 : x.cell? ⟨R, 2, none⟩ = some c := Box.cell hb 2
  have ht2 : tmps[2]?.getD undef = .pointer (some ⟨R, 0, none⟩) := by simpa [Array.getD_eq_getD_getElem?] using ht
  simp [results, Try.results23, ht, ht2, f0, f1, f2, go_sem]
def TokPost (w : World) (g : Nat) (vb : Value) (b : List UInt8) (i : Nat) (e : Ending) (w' : World) : Prop :=
  ∃ t : Tk, e = .returned (.agg (tokC t).toArray) ∧ ((tokM b i).2.2 = true → t = (tokM b i).1) ∧ Scn w' g vb (tokM b i).2.1 (notB (tokM b i).2.2) ∧ w.grownBy w' (some g)
theorem isB_num {b : List UInt8} {i : Nat} : isB b false i [45, 48, 49, 50, 51, 52, 53, 54, 55, 56, 57] = decide (byt b i = 45 ∨ digC (byt b i) = true) := by
  have e : isB b false i [45, 48, 49, 50, 51, 52, 53, 54, 55, 56, 57] = (isB b false i [45] || isB b false i digL) := by
    unfold isB memB digL
    rw [Bool.eq_iff_iff]
    simp
    constructor
    · rintro ⟨h1, h2⟩
      rcases h2 with h2 | h2
      · exact .inl ⟨h1, h2⟩
      · exact .inr ⟨h1, h2⟩
    · rintro (⟨h1, h2⟩ | ⟨h1, h2⟩)
      · exact ⟨h1, .inl h2⟩
      · exact ⟨h1, .inr h2⟩
  rw [e, isB_dig, isB_one (by decide), Bool.eq_iff_iff]
  simp
set_option maxRecDepth 100000 in
set_option maxHeartbeats 16000000 in
theorem rtok_any (g : Nat) (vb : Value) (b : List UInt8) (i : Nat) (w : World) (hs : Scn w g vb i false) (ht : Text w g vb b) (hi : i < b.length) :
    Calls Try.prog 23 #[.pointer (some ⟨g, 0, none⟩)] w (TokPost w g vb b i) := by
  have hm := ht.le
  have HT := Lib.hid ht
  have HS := Lib.hid hs
  have hgw := Box.lt hs
  have d1 : w.cell? ⟨g, 1, none⟩ = some (.int .i64 i) := hs.c1
  have HIO := Lib.hid (fun j (h : j < sigL.length) => isB_w1 (b := b) (q := i) h (by decide))
  clear hs ht
  go_enter Try.func23, Try.ntmps23
  go_wp2_with fail
  have HG0 := Lib.hid (grownBy_trans (grownBy_none (row := some g) (World.grownBy_alloc w (.cells #[.int .i64 0, .int .i64 0, .string ⟨#[]⟩] 40) none)) (grownBy_none (row := some g) (World.grownBy_alloc _ (.cells #[.int .i64 0, .int .i64 i, .string ⟨#[]⟩] 40) none)))
  have HR0 := Lib.hid (Box.alloc (Box.new w 40 [.int .i64 0, .int .i64 0, .string ⟨#[]⟩]) (.cells #[.int .i64 0, .int .i64 i, .string ⟨#[]⟩] 40))
  have HT0 := Lib.hid (Box.new2 w (.cells #[.int .i64 0, .int .i64 0, .string ⟨#[]⟩] 40) 40 [.int .i64 0, .int .i64 i, .string ⟨#[]⟩])
  have HS0 := Lib.hid (Box.alloc (Box.alloc HS.out (.cells #[.int .i64 0, .int .i64 0, .string ⟨#[]⟩] 40)) (.cells #[.int .i64 0, .int .i64 i, .string ⟨#[]⟩] 40))
  go_loopw [5] (fun tj wr => ∃ j : Nat, j ≤ 6 ∧ tj = .int .i64 j ∧ Hid (SigNot (byt b i) j) ∧ Scn wr g vb i false ∧ Box wr w.heap.size 40 [.int .i64 0, .int .i64 0, .string ⟨#[]⟩] ∧ Box wr (w.heap.size + 1) 40 [.int .i64 0, .int .i64 i, .string ⟨#[]⟩] ∧ w.grownBy wr (some g)) (fun tj _ => 6 - (intOf tj).toNat)
  case atStart => exact ⟨0, Nat.zero_le _, rfl, Lib.hid (fun k hk => by omega), HS0.out, HR0.out, HT0.out, HG0.out⟩
  case round =>
    obtain ⟨j, hj, rfl, HN, hs, hbr, hbt, hg⟩ := hrel
    have HSr := Lib.hid hs
    have HBR := Lib.hid hbr
    have HBT := Lib.hid hbt
    have HG := Lib.hid hg
    have HTr := Lib.hid (HT.out.grown hg)
    have hng : w.heap.size ≠ g := by omega
    have hng1 : w.heap.size + 1 ≠ g := by omega
    clear hs hbr hbt hg d1
    by_cases hlt : j < 6
    · have hltI : (j : Int) < 6 := by omega
      have HTK := Lib.hid (take_any g vb b i false ((sigL.take (j + 1)).drop j) wr HSr.out HTr.out (by simp [sigL]; omega) (by omega))
      rw [HIO.out j hlt] at HTK
      by_cases hq : byt b i = byt sigL j
      · have HY := Lib.hid (sig_yes hlt hq.symm)
        have HF : Hid (tokM b i = ((1 + (j : Int), i, []), i + 1, true)) := Lib.hid (by unfold tokM; rw [if_pos HY.out.1, HY.out.2])
        have HTK2 : Hid (Calls Try.prog 22 #[.pointer (some ⟨g, 0, none⟩), .string ⟨(([123, 125, 91, 93, 58, 44].take (j + 1)).drop j).toArray⟩] wr fun e w' => e = .returned (.bool true) ∧ Scn w' g vb (i + 1) false ∧ wr.grownBy w' (some g)) := Lib.hid (by have h := HTK.out; rw [decide_eq_true hq] at h; exact h)
        clear hq HTK HIO HN
        go_wp2_with fail
        refine HTK2.out.mono ?_
        rintro e x1 ⟨rfl, hs1, hg1⟩
        have HS1 := Lib.hid hs1
        have hbr1 := HBR.out.grown hg1 (fun e => hng (by injection e with e; exact e.symm))
        have hbt1 := HBT.out.grown hg1 (fun e => hng1 (by injection e with e; exact e.symm))
        have HG1 := Lib.hid (grownBy_trans HG.out hg1)
        have r0' : x1.cell? ⟨w.heap.size, 0, none⟩ = some (.int .i64 0) := Box.cell hbr1 0
        have r1' : x1.cell? ⟨w.heap.size, 1, none⟩ = some (.int .i64 0) := Box.cell hbr1 1
        have r2' : x1.cell? ⟨w.heap.size, 2, none⟩ = some (.string ⟨#[]⟩) := Box.cell hbr1 2
        have rf : ∀ k, x1.frozen? ⟨w.heap.size, k, none⟩ = false := fun k => Box.frozen hbr1 k
        have t0' : x1.cell? ⟨w.heap.size + 1, 0, none⟩ = some (.int .i64 0) := Box.cell hbt1 0
        have t1' : x1.cell? ⟨w.heap.size + 1, 1, none⟩ = some (.int .i64 i) := Box.cell hbt1 1
        have t2' : x1.cell? ⟨w.heap.size + 1, 2, none⟩ = some (.string ⟨#[]⟩) := Box.cell hbt1 2
        have tf : ∀ k, x1.frozen? ⟨w.heap.size + 1, k, none⟩ = false := fun k => Box.frozen hbt1 k
        clear hs1 hg1 hbt1
        go_wp2_with fail
        exact bodyPost_ret (v := .agg #[.int .i64 (1 + (j : Int)), .int .i64 i, .string ⟨#[]⟩]) (res_tok (Box.set (Box.set (Box.set (Box.off hbr1 (by omega) _ _) 0 (by simp) _) 1 (by simp) _) 2 (by simp) _) rfl) rfl ⟨(1 + (j : Int), i, []), rfl, fun _ => by rw [HF.out], by rw [HF.out]; (repeat (first | exact HS1.out | refine Scn.off ?_ (by omega) _ _)), by (repeat (first | exact HG1.out | refine grown_new ?_ (by omega) _ _))⟩
      · have HTK2 : Hid (Calls Try.prog 22 #[.pointer (some ⟨g, 0, none⟩), .string ⟨(([123, 125, 91, 93, 58, 44].take (j + 1)).drop j).toArray⟩] wr fun e w' => e = .returned (.bool false) ∧ Scn w' g vb i false ∧ wr.grownBy w' (some g)) := Lib.hid (by have h := HTK.out; rw [decide_eq_false hq] at h; exact h)
        have HN2 := Lib.hid (HN.out.next (fun h => hq h.symm))
        clear hq HTK HIO HN
        go_wp2_with fail
        refine HTK2.out.mono ?_
        rintro e x1 ⟨rfl, hs1, hg1⟩
        have HS1 := Lib.hid hs1
        have HB1 := Lib.hid (HBR.out.grown hg1 (fun e => hng (by injection e with e; exact e.symm)))
        have HB2 := Lib.hid (HBT.out.grown hg1 (fun e => hng1 (by injection e with e; exact e.symm)))
        have HG1 := Lib.hid (grownBy_trans HG.out hg1)
        clear hs1 hg1
        go_wp2_with fail
        exact ⟨⟨j + 1, by omega, by go_num, HN2, HS1.out, HB1.out, HB2.out, HG1.out⟩, by simp [intOf]; omega⟩
    · obtain rfl : j = 6 := by omega
      have HNS := Lib.hid (sig_no HN.out)
      have hkI : sigB (byt b i) = false := HNS.out
      clear HN
      by_cases k1 : byt b i = 34
      · have HF : Hid (tokM b i = ((7, i, (strM b (i + 1) []).1), (strM b (i + 1) []).2.1, (strM b (i + 1) []).2.2)) := Lib.hid (by
          unfold tokM
          rw [if_neg (by rw [hkI]; simp), if_neg (by omega), if_neg (by omega), if_neg (by omega), if_pos k1])
        have HQ1 : Hid (∀ W, Scn W g vb i false → Text W g vb b → Calls Try.prog 22 #[.pointer (some ⟨g, 0, none⟩), .string ⟨[34].toArray⟩] W fun e w' => e = .returned (.bool true) ∧ Scn w' g vb (i + 1) false ∧ W.grownBy w' (some g)) := Lib.hid (fun W h1 h2 => by
          have h := take_any g vb b i false [34] W h1 h2 (by decide) (by omega)
          rw [isB_c (by decide) true (by simpa using k1)] at h
          exact h)
        have HTX := Lib.hid (fun W h1 h2 => rtext_any g vb b (i + 1) W h1 h2 (by omega))
        obtain ⟨R, hR⟩ : ∃ R, strM b (i + 1) [] = R := ⟨_, rfl⟩
        rw [hR] at HTX HF
        clear hR k1 hkI HNS HIO
        obtain ⟨sx, q, ok⟩ := R
        have HTX2 : Hid (∀ W, Scn W g vb (i + 1) false → Text W g vb b → Calls Try.prog 34 #[.pointer (some ⟨g, 0, none⟩)] W fun e w' => e = .returned (.string ⟨sx.toArray⟩) ∧ Scn w' g vb q (notB ok) ∧ W.grownBy w' (some g)) := Lib.hid HTX.out
        clear HTX
        go_wp2_with fail
        refine (HQ1.out _ HSr.out HTr.out).mono ?_
        rintro e x1 ⟨rfl, hs1, hg1⟩
        have HS1 := Lib.hid hs1
        have HB1 := Lib.hid (HBR.out.grown hg1 (fun e => hng (by injection e with e; exact e.symm)))
        have HB2 := Lib.hid (HBT.out.grown hg1 (fun e => hng1 (by injection e with e; exact e.symm)))
        have HG1 := Lib.hid (grownBy_trans HG.out hg1)
        have HT1 := Lib.hid (HTr.out.grown hg1)
        have rr0 : x1.cell? ⟨w.heap.size + 1, 0, none⟩ = some (.int .i64 0) := Box.cell HB2.out 0
        have rr1 : x1.frozen? ⟨w.heap.size + 1, 0, none⟩ = false := Box.frozen HB2.out 0
        clear hs1 hg1
        go_wp2_with fail
        refine (HTX2.out _ (Scn.off HS1.out (by omega) _ _) (HT.out.grown (grown_new HG1.out (by omega) _ _))).mono ?_
        rintro e x2 ⟨rfl, hs2, hg2⟩
        have HS2 := Lib.hid hs2
        have hbr2 := (Box.off HB1.out (by omega) 0 (.int .i64 7)).grown hg2 (fun e => hng (by injection e with e; exact e.symm))
        have hbt2 : Box x2 (w.heap.size + 1) 40 [.int .i64 7, .int .i64 i, .string ⟨#[]⟩] := (Box.set HB2.out 0 (by simp) (.int .i64 7)).grown hg2 (fun e => hng1 (by injection e with e; exact e.symm))
        have HG2 := Lib.hid (grownBy_trans (grown_new HG1.out (by omega) _ _) hg2)
        have r0' : x2.cell? ⟨w.heap.size, 0, none⟩ = some (.int .i64 0) := Box.cell hbr2 0
        have r1' : x2.cell? ⟨w.heap.size, 1, none⟩ = some (.int .i64 0) := Box.cell hbr2 1
        have r2' : x2.cell? ⟨w.heap.size, 2, none⟩ = some (.string ⟨#[]⟩) := Box.cell hbr2 2
        have rf : ∀ k, x2.frozen? ⟨w.heap.size, k, none⟩ = false := fun k => Box.frozen hbr2 k
        have t0' : x2.cell? ⟨w.heap.size + 1, 0, none⟩ = some (.int .i64 7) := Box.cell hbt2 0
        have t1' : x2.cell? ⟨w.heap.size + 1, 1, none⟩ = some (.int .i64 i) := Box.cell hbt2 1
        have t2' : x2.cell? ⟨w.heap.size + 1, 2, none⟩ = some (.string ⟨#[]⟩) := Box.cell hbt2 2
        have tf : ∀ k, x2.frozen? ⟨w.heap.size + 1, k, none⟩ = false := fun k => Box.frozen hbt2 k
        clear hs2 hg2 hbt2
        go_wp2_with fail
        exact bodyPost_ret (v := .agg #[.int .i64 7, .int .i64 i, .string ⟨sx.toArray⟩]) (res_tok (Box.set (Box.set (Box.set (Box.off hbr2 (by omega) _ _) 0 (by simp) _) 1 (by simp) _) 2 (by simp) _) rfl) rfl ⟨(7, i, sx), rfl, fun _ => by rw [HF.out], by rw [HF.out]; (repeat (first | exact HS2.out | refine Scn.off ?_ (by omega) _ _)), by (repeat (first | exact HG2.out | refine grown_new ?_ (by omega) _ _))⟩
      by_cases k116 : byt b i = 116
      · have HF : Hid (tokM b i = ((9, i, []), (wordM b [116, 114, 117, 101] i).1, (wordM b [116, 114, 117, 101] i).2)) := Lib.hid (by
          unfold tokM
          rw [if_neg (by rw [hkI]; simp), if_pos k116])
        have HQ1 : Hid (∀ W, Scn W g vb i false → Text W g vb b → Calls Try.prog 22 #[.pointer (some ⟨g, 0, none⟩), .string ⟨[34].toArray⟩] W fun e w' => e = .returned (.bool false) ∧ Scn w' g vb i false ∧ W.grownBy w' (some g)) := Lib.hid (fun W h1 h2 => by
          have h := take_any g vb b i false [34] W h1 h2 (by decide) (by omega)
          rw [isB_c (by decide) false (by simpa using k1)] at h
          exact h)
        have HI0 : Hid (∀ W, Scn W g vb i false → Text W g vb b → Calls Try.prog 33 #[.pointer (some ⟨g, 0, none⟩), .string ⟨[45, 48, 49, 50, 51, 52, 53, 54, 55, 56, 57].toArray⟩] W fun e w' => e = .returned (.bool false) ∧ ∃ n, w' = W.drewN n) := Lib.hid (fun W h1 h2 => by
          have h := is_any g vb b i false [45, 48, 49, 50, 51, 52, 53, 54, 55, 56, 57] W h1 h2 (by decide) (by omega)
          rw [isB_num, decide_eq_false (by rw [k116]; decide)] at h
          exact h)
        have HI1 : Hid (∀ W, Scn W g vb i false → Text W g vb b → Calls Try.prog 33 #[.pointer (some ⟨g, 0, none⟩), .string ⟨[116].toArray⟩] W fun e w' => e = .returned (.bool true) ∧ ∃ n, w' = W.drewN n) := Lib.hid (fun W h1 h2 => by
          have h := is_any g vb b i false [116] W h1 h2 (by decide) (by omega)
          rw [isB_c (by decide) true (by rw [k116]; decide)] at h
          exact h)
        have HWD := Lib.hid (fun W h1 h2 => rword_any g vb b i [116, 114, 117, 101] W h1 h2 (by omega) (by decide) (by decide))
        obtain ⟨R, hR⟩ : ∃ R, wordM b [116, 114, 117, 101] i = R := ⟨_, rfl⟩
        rw [hR] at HWD HF
        clear hR k1 k116 hkI HNS HIO
        obtain ⟨q, ok⟩ := R
        have HWD2 : Hid (∀ W, Scn W g vb i false → Text W g vb b → Calls Try.prog 36 #[.pointer (some ⟨g, 0, none⟩), .string ⟨[116, 114, 117, 101].toArray⟩] W fun e w' => e = .returned (.tuple #[]) ∧ Scn w' g vb q (notB ok) ∧ W.grownBy w' (some g)) := Lib.hid HWD.out
        clear HWD
        go_wp2_with fail
        refine (HQ1.out _ HSr.out HTr.out).mono ?_
        rintro e x1 ⟨rfl, hs1, hg1⟩
        have HS1 := Lib.hid hs1
        have HB1 := Lib.hid (HBR.out.grown hg1 (fun e => hng (by injection e with e; exact e.symm)))
        have HB2 := Lib.hid (HBT.out.grown hg1 (fun e => hng1 (by injection e with e; exact e.symm)))
        have HG1 := Lib.hid (grownBy_trans HG.out hg1)
        have HT1 := Lib.hid (HTr.out.grown hg1)
        have rr0 : x1.cell? ⟨w.heap.size + 1, 0, none⟩ = some (.int .i64 0) := Box.cell HB2.out 0
        have rr1 : x1.frozen? ⟨w.heap.size + 1, 0, none⟩ = false := Box.frozen HB2.out 0
        clear hs1 hg1
        go_wp2_with fail
        refine (HI0.out _ HS1.out HT1.out).mono ?_
        rintro e w' ⟨rfl, n1, rfl⟩
        go_wp2_with fail
        refine (HI1.out _ (Box.drew HS1.out _) (HT1.out.grown (grownBy_drew _ _ _))).mono ?_
        rintro e w' ⟨rfl, n2, rfl⟩
        go_wp2_with fail
        refine (HWD2.out _ (Scn.off (Box.drew HS1.out _) (by omega) _ _) (HT.out.grown (grown_new (grownBy_trans HG1.out (grownBy_drew _ _ _)) (by omega) _ _))).mono ?_
        rintro e x2 ⟨rfl, hs2, hg2⟩
        have HS2 := Lib.hid hs2
        have hbr2 := (Box.off (Box.drew HB1.out _) (by omega) 0 (.int .i64 9)).grown hg2 (fun e => hng (by injection e with e; exact e.symm))
        have hbt2 : Box x2 (w.heap.size + 1) 40 [.int .i64 9, .int .i64 i, .string ⟨#[]⟩] := (Box.set (Box.drew HB2.out _) 0 (by simp) (.int .i64 9)).grown hg2 (fun e => hng1 (by injection e with e; exact e.symm))
        have HG2 := Lib.hid (grownBy_trans (grown_new (grownBy_trans HG1.out (grownBy_drew _ _ _)) (by omega) _ _) hg2)
        have r0' : x2.cell? ⟨w.heap.size, 0, none⟩ = some (.int .i64 0) := Box.cell hbr2 0
        have r1' : x2.cell? ⟨w.heap.size, 1, none⟩ = some (.int .i64 0) := Box.cell hbr2 1
        have r2' : x2.cell? ⟨w.heap.size, 2, none⟩ = some (.string ⟨#[]⟩) := Box.cell hbr2 2
        have rf : ∀ k, x2.frozen? ⟨w.heap.size, k, none⟩ = false := fun k => Box.frozen hbr2 k
        have t0' : x2.cell? ⟨w.heap.size + 1, 0, none⟩ = some (.int .i64 9) := Box.cell hbt2 0
        have t1' : x2.cell? ⟨w.heap.size + 1, 1, none⟩ = some (.int .i64 i) := Box.cell hbt2 1
        have t2' : x2.cell? ⟨w.heap.size + 1, 2, none⟩ = some (.string ⟨#[]⟩) := Box.cell hbt2 2
        have tf : ∀ k, x2.frozen? ⟨w.heap.size + 1, k, none⟩ = false := fun k => Box.frozen hbt2 k
        clear hs2 hg2 hbt2
        go_wp2_with fail
        exact bodyPost_ret (v := .agg #[.int .i64 9, .int .i64 i, .string ⟨#[]⟩]) (res_tok (Box.set (Box.set (Box.set hbr2 0 (by simp) _) 1 (by simp) _) 2 (by simp) _) rfl) rfl ⟨(9, i, []), rfl, fun _ => by rw [HF.out], by rw [HF.out]; (repeat (first | exact HS2.out | refine Scn.off ?_ (by omega) _ _)), by (repeat (first | exact HG2.out | refine grown_new ?_ (by omega) _ _))⟩
      by_cases k102 : byt b i = 102
      · have HF : Hid (tokM b i = ((10, i, []), (wordM b [102, 97, 108, 115, 101] i).1, (wordM b [102, 97, 108, 115, 101] i).2)) := Lib.hid (by
          unfold tokM
          rw [if_neg (by rw [hkI]; simp), if_neg (by omega), if_pos k102])
        have HQ1 : Hid (∀ W, Scn W g vb i false → Text W g vb b → Calls Try.prog 22 #[.pointer (some ⟨g, 0, none⟩), .string ⟨[34].toArray⟩] W fun e w' => e = .returned (.bool false) ∧ Scn w' g vb i false ∧ W.grownBy w' (some g)) := Lib.hid (fun W h1 h2 => by
          have h := take_any g vb b i false [34] W h1 h2 (by decide) (by omega)
          rw [isB_c (by decide) false (by simpa using k1)] at h
          exact h)
        have HI0 : Hid (∀ W, Scn W g vb i false → Text W g vb b → Calls Try.prog 33 #[.pointer (some ⟨g, 0, none⟩), .string ⟨[45, 48, 49, 50, 51, 52, 53, 54, 55, 56, 57].toArray⟩] W fun e w' => e = .returned (.bool false) ∧ ∃ n, w' = W.drewN n) := Lib.hid (fun W h1 h2 => by
          have h := is_any g vb b i false [45, 48, 49, 50, 51, 52, 53, 54, 55, 56, 57] W h1 h2 (by decide) (by omega)
          rw [isB_num, decide_eq_false (by rw [k102]; decide)] at h
          exact h)
        have HI1 : Hid (∀ W, Scn W g vb i false → Text W g vb b → Calls Try.prog 33 #[.pointer (some ⟨g, 0, none⟩), .string ⟨[116].toArray⟩] W fun e w' => e = .returned (.bool false) ∧ ∃ n, w' = W.drewN n) := Lib.hid (fun W h1 h2 => by
          have h := is_any g vb b i false [116] W h1 h2 (by decide) (by omega)
          rw [isB_c (by decide) false (by rw [k102]; decide)] at h
          exact h)
        have HI2 : Hid (∀ W, Scn W g vb i false → Text W g vb b → Calls Try.prog 33 #[.pointer (some ⟨g, 0, none⟩), .string ⟨[102].toArray⟩] W fun e w' => e = .returned (.bool true) ∧ ∃ n, w' = W.drewN n) := Lib.hid (fun W h1 h2 => by
          have h := is_any g vb b i false [102] W h1 h2 (by decide) (by omega)
          rw [isB_c (by decide) true (by rw [k102]; decide)] at h
          exact h)
        have HWD := Lib.hid (fun W h1 h2 => rword_any g vb b i [102, 97, 108, 115, 101] W h1 h2 (by omega) (by decide) (by decide))
        obtain ⟨R, hR⟩ : ∃ R, wordM b [102, 97, 108, 115, 101] i = R := ⟨_, rfl⟩
        rw [hR] at HWD HF
        clear hR k1 k102 hkI HNS HIO
        obtain ⟨q, ok⟩ := R
        have HWD2 : Hid (∀ W, Scn W g vb i false → Text W g vb b → Calls Try.prog 36 #[.pointer (some ⟨g, 0, none⟩), .string ⟨[102, 97, 108, 115, 101].toArray⟩] W fun e w' => e = .returned (.tuple #[]) ∧ Scn w' g vb q (notB ok) ∧ W.grownBy w' (some g)) := Lib.hid HWD.out
        clear HWD
        go_wp2_with fail
        refine (HQ1.out _ HSr.out HTr.out).mono ?_
        rintro e x1 ⟨rfl, hs1, hg1⟩
        have HS1 := Lib.hid hs1
        have HB1 := Lib.hid (HBR.out.grown hg1 (fun e => hng (by injection e with e; exact e.symm)))
        have HB2 := Lib.hid (HBT.out.grown hg1 (fun e => hng1 (by injection e with e; exact e.symm)))
        have HG1 := Lib.hid (grownBy_trans HG.out hg1)
        have HT1 := Lib.hid (HTr.out.grown hg1)
        have rr0 : x1.cell? ⟨w.heap.size + 1, 0, none⟩ = some (.int .i64 0) := Box.cell HB2.out 0
        have rr1 : x1.frozen? ⟨w.heap.size + 1, 0, none⟩ = false := Box.frozen HB2.out 0
        clear hs1 hg1
        go_wp2_with fail
        refine (HI0.out _ HS1.out HT1.out).mono ?_
        rintro e w' ⟨rfl, n1, rfl⟩
        go_wp2_with fail
        refine (HI1.out _ (Box.drew HS1.out _) (HT1.out.grown (grownBy_drew _ _ _))).mono ?_
        rintro e w' ⟨rfl, n2, rfl⟩
        go_wp2_with fail
        refine (HI2.out _ (Box.drew HS1.out _) (HT1.out.grown (grownBy_drew _ _ _))).mono ?_
        rintro e w' ⟨rfl, n3, rfl⟩
        go_wp2_with fail
        refine (HWD2.out _ (Scn.off (Box.drew HS1.out _) (by omega) _ _) (HT.out.grown (grown_new (grownBy_trans HG1.out (grownBy_drew _ _ _)) (by omega) _ _))).mono ?_
        rintro e x2 ⟨rfl, hs2, hg2⟩
        have HS2 := Lib.hid hs2
        have hbr2 := (Box.off (Box.drew HB1.out _) (by omega) 0 (.int .i64 10)).grown hg2 (fun e => hng (by injection e with e; exact e.symm))
        have hbt2 : Box x2 (w.heap.size + 1) 40 [.int .i64 10, .int .i64 i, .string ⟨#[]⟩] := (Box.set (Box.drew HB2.out _) 0 (by simp) (.int .i64 10)).grown hg2 (fun e => hng1 (by injection e with e; exact e.symm))
        have HG2 := Lib.hid (grownBy_trans (grown_new (grownBy_trans HG1.out (grownBy_drew _ _ _)) (by omega) _ _) hg2)
        have r0' : x2.cell? ⟨w.heap.size, 0, none⟩ = some (.int .i64 0) := Box.cell hbr2 0
        have r1' : x2.cell? ⟨w.heap.size, 1, none⟩ = some (.int .i64 0) := Box.cell hbr2 1
        have r2' : x2.cell? ⟨w.heap.size, 2, none⟩ = some (.string ⟨#[]⟩) := Box.cell hbr2 2
        have rf : ∀ k, x2.frozen? ⟨w.heap.size, k, none⟩ = false := fun k => Box.frozen hbr2 k
        have t0' : x2.cell? ⟨w.heap.size + 1, 0, none⟩ = some (.int .i64 10) := Box.cell hbt2 0
        have t1' : x2.cell? ⟨w.heap.size + 1, 1, none⟩ = some (.int .i64 i) := Box.cell hbt2 1
        have t2' : x2.cell? ⟨w.heap.size + 1, 2, none⟩ = some (.string ⟨#[]⟩) := Box.cell hbt2 2
        have tf : ∀ k, x2.frozen? ⟨w.heap.size + 1, k, none⟩ = false := fun k => Box.frozen hbt2 k
        clear hs2 hg2 hbt2
        go_wp2_with fail
        exact bodyPost_ret (v := .agg #[.int .i64 10, .int .i64 i, .string ⟨#[]⟩]) (res_tok (Box.set (Box.set (Box.set hbr2 0 (by simp) _) 1 (by simp) _) 2 (by simp) _) rfl) rfl ⟨(10, i, []), rfl, fun _ => by rw [HF.out], by rw [HF.out]; (repeat (first | exact HS2.out | refine Scn.off ?_ (by omega) _ _)), by (repeat (first | exact HG2.out | refine grown_new ?_ (by omega) _ _))⟩
      by_cases k110 : byt b i = 110
      · have HF : Hid (tokM b i = ((11, i, []), (wordM b [110, 117, 108, 108] i).1, (wordM b [110, 117, 108, 108] i).2)) := Lib.hid (by
          unfold tokM
          rw [if_neg (by rw [hkI]; simp), if_neg (by omega), if_neg (by omega), if_pos k110])
        have HQ1 : Hid (∀ W, Scn W g vb i false → Text W g vb b → Calls Try.prog 22 #[.pointer (some ⟨g, 0, none⟩), .string ⟨[34].toArray⟩] W fun e w' => e = .returned (.bool false) ∧ Scn w' g vb i false ∧ W.grownBy w' (some g)) := Lib.hid (fun W h1 h2 => by
          have h := take_any g vb b i false [34] W h1 h2 (by decide) (by omega)
          rw [isB_c (by decide) false (by simpa using k1)] at h
          exact h)
        have HI0 : Hid (∀ W, Scn W g vb i false → Text W g vb b → Calls Try.prog 33 #[.pointer (some ⟨g, 0, none⟩), .string ⟨[45, 48, 49, 50, 51, 52, 53, 54, 55, 56, 57].toArray⟩] W fun e w' => e = .returned (.bool false) ∧ ∃ n, w' = W.drewN n) := Lib.hid (fun W h1 h2 => by
          have h := is_any g vb b i false [45, 48, 49, 50, 51, 52, 53, 54, 55, 56, 57] W h1 h2 (by decide) (by omega)
          rw [isB_num, decide_eq_false (by rw [k110]; decide)] at h
          exact h)
        have HI1 : Hid (∀ W, Scn W g vb i false → Text W g vb b → Calls Try.prog 33 #[.pointer (some ⟨g, 0, none⟩), .string ⟨[116].toArray⟩] W fun e w' => e = .returned (.bool false) ∧ ∃ n, w' = W.drewN n) := Lib.hid (fun W h1 h2 => by
          have h := is_any g vb b i false [116] W h1 h2 (by decide) (by omega)
          rw [isB_c (by decide) false (by rw [k110]; decide)] at h
          exact h)
        have HI2 : Hid (∀ W, Scn W g vb i false → Text W g vb b → Calls Try.prog 33 #[.pointer (some ⟨g, 0, none⟩), .string ⟨[102].toArray⟩] W fun e w' => e = .returned (.bool false) ∧ ∃ n, w' = W.drewN n) := Lib.hid (fun W h1 h2 => by
          have h := is_any g vb b i false [102] W h1 h2 (by decide) (by omega)
          rw [isB_c (by decide) false (by rw [k110]; decide)] at h
          exact h)
        have HI3 : Hid (∀ W, Scn W g vb i false → Text W g vb b → Calls Try.prog 33 #[.pointer (some ⟨g, 0, none⟩), .string ⟨[110].toArray⟩] W fun e w' => e = .returned (.bool true) ∧ ∃ n, w' = W.drewN n) := Lib.hid (fun W h1 h2 => by
          have h := is_any g vb b i false [110] W h1 h2 (by decide) (by omega)
          rw [isB_c (by decide) true (by rw [k110]; decide)] at h
          exact h)
        have HWD := Lib.hid (fun W h1 h2 => rword_any g vb b i [110, 117, 108, 108] W h1 h2 (by omega) (by decide) (by decide))
        obtain ⟨R, hR⟩ : ∃ R, wordM b [110, 117, 108, 108] i = R := ⟨_, rfl⟩
        rw [hR] at HWD HF
        clear hR k1 k110 hkI HNS HIO
        obtain ⟨q, ok⟩ := R
        have HWD2 : Hid (∀ W, Scn W g vb i false → Text W g vb b → Calls Try.prog 36 #[.pointer (some ⟨g, 0, none⟩), .string ⟨[110, 117, 108, 108].toArray⟩] W fun e w' => e = .returned (.tuple #[]) ∧ Scn w' g vb q (notB ok) ∧ W.grownBy w' (some g)) := Lib.hid HWD.out
        clear HWD
        go_wp2_with fail
        refine (HQ1.out _ HSr.out HTr.out).mono ?_
        rintro e x1 ⟨rfl, hs1, hg1⟩
        have HS1 := Lib.hid hs1
        have HB1 := Lib.hid (HBR.out.grown hg1 (fun e => hng (by injection e with e; exact e.symm)))
        have HB2 := Lib.hid (HBT.out.grown hg1 (fun e => hng1 (by injection e with e; exact e.symm)))
        have HG1 := Lib.hid (grownBy_trans HG.out hg1)
        have HT1 := Lib.hid (HTr.out.grown hg1)
        have rr0 : x1.cell? ⟨w.heap.size + 1, 0, none⟩ = some (.int .i64 0) := Box.cell HB2.out 0
        have rr1 : x1.frozen? ⟨w.heap.size + 1, 0, none⟩ = false := Box.frozen HB2.out 0
        clear hs1 hg1
        go_wp2_with fail
        refine (HI0.out _ HS1.out HT1.out).mono ?_
        rintro e w' ⟨rfl, n1, rfl⟩
        go_wp2_with fail
        refine (HI1.out _ (Box.drew HS1.out _) (HT1.out.grown (grownBy_drew _ _ _))).mono ?_
        rintro e w' ⟨rfl, n2, rfl⟩
        go_wp2_with fail
        refine (HI2.out _ (Box.drew HS1.out _) (HT1.out.grown (grownBy_drew _ _ _))).mono ?_
        rintro e w' ⟨rfl, n3, rfl⟩
        go_wp2_with fail
        refine (HI3.out _ (Box.drew HS1.out _) (HT1.out.grown (grownBy_drew _ _ _))).mono ?_
        rintro e w' ⟨rfl, n4, rfl⟩
        go_wp2_with fail
        refine (HWD2.out _ (Scn.off (Box.drew HS1.out _) (by omega) _ _) (HT.out.grown (grown_new (grownBy_trans HG1.out (grownBy_drew _ _ _)) (by omega) _ _))).mono ?_
        rintro e x2 ⟨rfl, hs2, hg2⟩
        have HS2 := Lib.hid hs2
        have hbr2 := (Box.off (Box.drew HB1.out _) (by omega) 0 (.int .i64 11)).grown hg2 (fun e => hng (by injection e with e; exact e.symm))
        have hbt2 : Box x2 (w.heap.size + 1) 40 [.int .i64 11, .int .i64 i, .string ⟨#[]⟩] := (Box.set (Box.drew HB2.out _) 0 (by simp) (.int .i64 11)).grown hg2 (fun e => hng1 (by injection e with e; exact e.symm))
        have HG2 := Lib.hid (grownBy_trans (grown_new (grownBy_trans HG1.out (grownBy_drew _ _ _)) (by omega) _ _) hg2)
        have r0' : x2.cell? ⟨w.heap.size, 0, none⟩ = some (.int .i64 0) := Box.cell hbr2 0
        have r1' : x2.cell? ⟨w.heap.size, 1, none⟩ = some (.int .i64 0) := Box.cell hbr2 1
        have r2' : x2.cell? ⟨w.heap.size, 2, none⟩ = some (.string ⟨#[]⟩) := Box.cell hbr2 2
        have rf : ∀ k, x2.frozen? ⟨w.heap.size, k, none⟩ = false := fun k => Box.frozen hbr2 k
        have t0' : x2.cell? ⟨w.heap.size + 1, 0, none⟩ = some (.int .i64 11) := Box.cell hbt2 0
        have t1' : x2.cell? ⟨w.heap.size + 1, 1, none⟩ = some (.int .i64 i) := Box.cell hbt2 1
        have t2' : x2.cell? ⟨w.heap.size + 1, 2, none⟩ = some (.string ⟨#[]⟩) := Box.cell hbt2 2
        have tf : ∀ k, x2.frozen? ⟨w.heap.size + 1, k, none⟩ = false := fun k => Box.frozen hbt2 k
        clear hs2 hg2 hbt2
        go_wp2_with fail
        exact bodyPost_ret (v := .agg #[.int .i64 11, .int .i64 i, .string ⟨#[]⟩]) (res_tok (Box.set (Box.set (Box.set hbr2 0 (by simp) _) 1 (by simp) _) 2 (by simp) _) rfl) rfl ⟨(11, i, []), rfl, fun _ => by rw [HF.out], by rw [HF.out]; (repeat (first | exact HS2.out | refine Scn.off ?_ (by omega) _ _)), by (repeat (first | exact HG2.out | refine grown_new ?_ (by omega) _ _))⟩
      by_cases kn : byt b i = 45 ∨ digC (byt b i) = true
      · have HF : Hid (tokM b i = ((8, i, sub8 b i (numM b i).1), (numM b i).1, (numM b i).2)) := Lib.hid (by
          unfold tokM
          rw [if_neg (by rw [hkI]; simp), if_neg k116, if_neg k102, if_neg k110, if_neg k1, if_pos kn])
        have HQ1 : Hid (∀ W, Scn W g vb i false → Text W g vb b → Calls Try.prog 22 #[.pointer (some ⟨g, 0, none⟩), .string ⟨[34].toArray⟩] W fun e w' => e = .returned (.bool false) ∧ Scn w' g vb i false ∧ W.grownBy w' (some g)) := Lib.hid (fun W h1 h2 => by
          have h := take_any g vb b i false [34] W h1 h2 (by decide) (by omega)
          rw [isB_c (by decide) false (by simpa using k1)] at h
          exact h)
        have HI0 : Hid (∀ W, Scn W g vb i false → Text W g vb b → Calls Try.prog 33 #[.pointer (some ⟨g, 0, none⟩), .string ⟨[45, 48, 49, 50, 51, 52, 53, 54, 55, 56, 57].toArray⟩] W fun e w' => e = .returned (.bool true) ∧ ∃ n, w' = W.drewN n) := Lib.hid (fun W h1 h2 => by
          have h := is_any g vb b i false [45, 48, 49, 50, 51, 52, 53, 54, 55, 56, 57] W h1 h2 (by decide) (by omega)
          rw [isB_num, decide_eq_true kn] at h
          exact h)
        have HNU := Lib.hid (fun W h1 h2 => rnum_any g vb b i W h1 h2 (by omega))
        rw [numR_eq] at HNU
        have hnb := numM_bd b i (by omega)
        obtain ⟨R, hR⟩ : ∃ R, numM b i = R := ⟨_, rfl⟩
        rw [hR] at HNU HF hnb
        clear hR k1 kn k116 k102 k110 hkI HNS HIO
        obtain ⟨q, ok⟩ := R
        have hq0 : i ≤ q := hnb.1
        have hq1 : q ≤ b.length := hnb.2
        have HNU2 : Hid (∀ W, Scn W g vb i false → Text W g vb b → Calls Try.prog 35 #[.pointer (some ⟨g, 0, none⟩)] W fun e w' => e = .returned (.tuple #[]) ∧ Scn w' g vb q (notB ok) ∧ W.grownBy w' (some g)) := Lib.hid HNU.out
        clear HNU hnb
        go_wp2_with fail
        refine (HQ1.out _ HSr.out HTr.out).mono ?_
        rintro e x1 ⟨rfl, hs1, hg1⟩
        have HS1 := Lib.hid hs1
        have HB1 := Lib.hid (HBR.out.grown hg1 (fun e => hng (by injection e with e; exact e.symm)))
        have HB2 := Lib.hid (HBT.out.grown hg1 (fun e => hng1 (by injection e with e; exact e.symm)))
        have HG1 := Lib.hid (grownBy_trans HG.out hg1)
        have HT1 := Lib.hid (HTr.out.grown hg1)
        have rr0 : x1.cell? ⟨w.heap.size + 1, 0, none⟩ = some (.int .i64 0) := Box.cell HB2.out 0
        have rr1 : x1.frozen? ⟨w.heap.size + 1, 0, none⟩ = false := Box.frozen HB2.out 0
        clear hs1 hg1
        go_wp2_with fail
        refine (HI0.out _ HS1.out HT1.out).mono ?_
        rintro e w' ⟨rfl, n1, rfl⟩
        go_wp2_with fail
        refine (HNU2.out _ (Scn.off (Box.drew HS1.out _) (by omega) _ _) (HT.out.grown (grown_new (grownBy_trans HG1.out (grownBy_drew _ _ _)) (by omega) _ _))).mono ?_
        rintro e x2 ⟨rfl, hs2, hg2⟩
        have HS2 := Lib.hid hs2
        have hbr2 := (Box.off (Box.drew HB1.out _) (by omega) 0 (.int .i64 8)).grown hg2 (fun e => hng (by injection e with e; exact e.symm))
        have hbt2 : Box x2 (w.heap.size + 1) 40 [.int .i64 8, .int .i64 i, .string ⟨#[]⟩] := (Box.set (Box.drew HB2.out _) 0 (by simp) (.int .i64 8)).grown hg2 (fun e => hng1 (by injection e with e; exact e.symm))
        have HG2 := Lib.hid (grownBy_trans (grown_new (grownBy_trans HG1.out (grownBy_drew _ _ _)) (by omega) _ _) hg2)
        have HT2 := Lib.hid (HT.out.grown HG2.out)
        obtain ⟨a, cap, e, h1, h2, -, h4⟩ := HT2.out.is
        subst e
        have hmaxc := h2
        unfold maxLen at h2
        obtain ⟨bb, off, rfl, hc⟩ := h4 (by omega)
        have H8 := Lib.hid (Is8.subAt hc i q hq0 hq1 h1 hmaxc)
        have e0 : x2.cell? ⟨g, 0, none⟩ = some (.slice (some ⟨bb, off, none⟩) b.length cap) := hs2.c0
        have e1 : x2.cell? ⟨g, 1, none⟩ = some (.int .i64 q) := hs2.c1
        have q3 : ¬ cap = i := by omega
        have q4 : (i : Int) ≤ (q : Int) := by omega
        have q5 : (q : Int) ≤ (cap : Int) := by omega
        have r0' : x2.cell? ⟨w.heap.size, 0, none⟩ = some (.int .i64 0) := Box.cell hbr2 0
        have r1' : x2.cell? ⟨w.heap.size, 1, none⟩ = some (.int .i64 0) := Box.cell hbr2 1
        have r2' : x2.cell? ⟨w.heap.size, 2, none⟩ = some (.string ⟨#[]⟩) := Box.cell hbr2 2
        have rf : ∀ k, x2.frozen? ⟨w.heap.size, k, none⟩ = false := fun k => Box.frozen hbr2 k
        have t0' : x2.cell? ⟨w.heap.size + 1, 0, none⟩ = some (.int .i64 8) := Box.cell hbt2 0
        have t1' : x2.cell? ⟨w.heap.size + 1, 1, none⟩ = some (.int .i64 i) := Box.cell hbt2 1
        have t2' : x2.cell? ⟨w.heap.size + 1, 2, none⟩ = some (.string ⟨#[]⟩) := Box.cell hbt2 2
        have tf : ∀ k, x2.frozen? ⟨w.heap.size + 1, k, none⟩ = false := fun k => Box.frozen hbt2 k
        clear hs2 hg2 hbt2 hc h4
        go_wp2_with fail
        have hcv : (convert 29 9 (.slice (some ⟨bb, off + i, none⟩) (q - i) (cap - i))).run Try.prog x2.drew = .ok (.string ⟨(sub8 b i q).toArray⟩) x2.drew := run_toStr x2.drew _ _ 5 Try.underlying29 Try.underlying5 Try.underlying9 _ _ H8.out
        go_region
        all_goals
          go_wp2_with fail
          exact bodyPost_ret (v := .agg #[.int .i64 8, .int .i64 i, .string ⟨(sub8 b i q).toArray⟩]) (res_tok (Box.set (Box.set (Box.set (Box.off (Box.drew hbr2 1) (by omega) _ _) 0 (by simp) _) 1 (by simp) _) 2 (by simp) _) rfl) rfl ⟨(8, i, sub8 b i q), rfl, fun _ => by rw [HF.out], by rw [HF.out]; (repeat (first | exact HS2.out | refine Scn.dr ?_ | refine Scn.off ?_ (by omega) _ _)), by (repeat (first | exact HG2.out | refine grown_dr ?_ | refine grown_new ?_ (by omega) _ _))⟩
      have HF : Hid (tokM b i = ((0, i, []), i, false)) := Lib.hid (by
        unfold tokM
        rw [if_neg (by rw [hkI]; simp), if_neg k116, if_neg k102, if_neg k110, if_neg k1, if_neg kn])
      have HQ1 : Hid (∀ W, Scn W g vb i false → Text W g vb b → Calls Try.prog 22 #[.pointer (some ⟨g, 0, none⟩), .string ⟨[34].toArray⟩] W fun e w' => e = .returned (.bool false) ∧ Scn w' g vb i false ∧ W.grownBy w' (some g)) := Lib.hid (fun W h1 h2 => by
        have h := take_any g vb b i false [34] W h1 h2 (by decide) (by omega)
        rw [isB_c (by decide) false (by simpa using k1)] at h
        exact h)
      have HI0 : Hid (∀ W, Scn W g vb i false → Text W g vb b → Calls Try.prog 33 #[.pointer (some ⟨g, 0, none⟩), .string ⟨[45, 48, 49, 50, 51, 52, 53, 54, 55, 56, 57].toArray⟩] W fun e w' => e = .returned (.bool false) ∧ ∃ n, w' = W.drewN n) := Lib.hid (fun W h1 h2 => by
        have h := is_any g vb b i false [45, 48, 49, 50, 51, 52, 53, 54, 55, 56, 57] W h1 h2 (by decide) (by omega)
        rw [isB_num, decide_eq_false kn] at h
        exact h)
      have HI1 : Hid (∀ W, Scn W g vb i false → Text W g vb b → Calls Try.prog 33 #[.pointer (some ⟨g, 0, none⟩), .string ⟨[116].toArray⟩] W fun e w' => e = .returned (.bool false) ∧ ∃ n, w' = W.drewN n) := Lib.hid (fun W h1 h2 => by
        have h := is_any g vb b i false [116] W h1 h2 (by decide) (by omega)
        rw [isB_c (by decide) false (by simpa using k116)] at h
        exact h)
      have HI2 : Hid (∀ W, Scn W g vb i false → Text W g vb b → Calls Try.prog 33 #[.pointer (some ⟨g, 0, none⟩), .string ⟨[102].toArray⟩] W fun e w' => e = .returned (.bool false) ∧ ∃ n, w' = W.drewN n) := Lib.hid (fun W h1 h2 => by
        have h := is_any g vb b i false [102] W h1 h2 (by decide) (by omega)
        rw [isB_c (by decide) false (by simpa using k102)] at h
        exact h)
      have HI3 : Hid (∀ W, Scn W g vb i false → Text W g vb b → Calls Try.prog 33 #[.pointer (some ⟨g, 0, none⟩), .string ⟨[110].toArray⟩] W fun e w' => e = .returned (.bool false) ∧ ∃ n, w' = W.drewN n) := Lib.hid (fun W h1 h2 => by
        have h := is_any g vb b i false [110] W h1 h2 (by decide) (by omega)
        rw [isB_c (by decide) false (by simpa using k110)] at h
        exact h)
      clear k1 kn k116 k102 k110 hkI HNS HIO
      go_wp2_with fail
      refine (HQ1.out _ HSr.out HTr.out).mono ?_
      rintro e x1 ⟨rfl, hs1, hg1⟩
      have HS1 := Lib.hid hs1
      have HB1 := Lib.hid (HBR.out.grown hg1 (fun e => hng (by injection e with e; exact e.symm)))
      have HB2 := Lib.hid (HBT.out.grown hg1 (fun e => hng1 (by injection e with e; exact e.symm)))
      have HG1 := Lib.hid (grownBy_trans HG.out hg1)
      have HT1 := Lib.hid (HTr.out.grown hg1)
      have rr0 : x1.cell? ⟨w.heap.size + 1, 0, none⟩ = some (.int .i64 0) := Box.cell HB2.out 0
      have rr1 : x1.frozen? ⟨w.heap.size + 1, 0, none⟩ = false := Box.frozen HB2.out 0
      clear hs1 hg1
      go_wp2_with fail
      refine (HI0.out _ HS1.out HT1.out).mono ?_
      rintro e w' ⟨rfl, n1, rfl⟩
      go_wp2_with fail
      refine (HI1.out _ (Box.drew HS1.out _) (HT1.out.grown (grownBy_drew _ _ _))).mono ?_
      rintro e w' ⟨rfl, n2, rfl⟩
      go_wp2_with fail
      refine (HI2.out _ (Box.drew HS1.out _) (HT1.out.grown (grownBy_drew _ _ _))).mono ?_
      rintro e w' ⟨rfl, n3, rfl⟩
      go_wp2_with fail
      refine (HI3.out _ (Box.drew HS1.out _) (HT1.out.grown (grownBy_drew _ _ _))).mono ?_
      rintro e w' ⟨rfl, n4, rfl⟩
      have e2 : x1.cell? ⟨g, 2, none⟩ = some (.bool false) := Scn.c2 HS1.out
      have f2 : x1.frozen? ⟨g, 2, none⟩ = false := Box.frozen HS1.out 2
      have hbr1 := HB1.out
      have hbt1 := HB2.out
      have r0' : x1.cell? ⟨w.heap.size, 0, none⟩ = some (.int .i64 0) := Box.cell hbr1 0
      have r1' : x1.cell? ⟨w.heap.size, 1, none⟩ = some (.int .i64 0) := Box.cell hbr1 1
      have r2' : x1.cell? ⟨w.heap.size, 2, none⟩ = some (.string ⟨#[]⟩) := Box.cell hbr1 2
      have rf : ∀ k, x1.frozen? ⟨w.heap.size, k, none⟩ = false := fun k => Box.frozen hbr1 k
      have t0' : x1.cell? ⟨w.heap.size + 1, 0, none⟩ = some (.int .i64 0) := Box.cell hbt1 0
      have t1' : x1.cell? ⟨w.heap.size + 1, 1, none⟩ = some (.int .i64 i) := Box.cell hbt1 1
      have t2' : x1.cell? ⟨w.heap.size + 1, 2, none⟩ = some (.string ⟨#[]⟩) := Box.cell hbt1 2
      have tf : ∀ k, x1.frozen? ⟨w.heap.size + 1, k, none⟩ = false := fun k => Box.frozen hbt1 k
      clear hbt1
      go_wp2_with fail
      exact bodyPost_ret (v := .agg #[.int .i64 0, .int .i64 i, .string ⟨#[]⟩]) (res_tok (Box.set (Box.set (Box.set (Box.off (Box.drew hbr1 _) (by omega) _ _) 0 (by simp) _) 1 (by simp) _) 2 (by simp) _) rfl) rfl ⟨(0, i, []), rfl, fun _ => by rw [HF.out], by rw [HF.out]; (repeat (first | exact (Scn.bad HS1.out _) | refine Scn.off ?_ (by omega) _ _)), by (repeat (first | exact (grown_to HG1.out _ 2 _) | refine grown_new ?_ (by omega) _ _))⟩
end Go.Proofs.Ytncfmmpdlcnboaa
