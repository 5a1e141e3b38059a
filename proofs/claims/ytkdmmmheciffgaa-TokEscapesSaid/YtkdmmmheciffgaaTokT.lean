/- The contract of jtok's text. -/
import Derived.Test.YtkdmmmheciffgaaTokS
set_option linter.unusedVariables false
set_option linter.unusedSimpArgs false
namespace Go.Proofs.Ytkdmmmheciffgaa
open Go.RowKit

theorem Text.drew {w : World} {g : Nat} {vb : Value} {b : List UInt8} (h : Text w g vb b) (k : Nat) : Text (w.drewN k) g vb b := ⟨h.is, h.ne, h.le⟩
/-- Bytes' blocks are no scanner's, and no tokens'. -/
theorem Own.neBox {w : World} {B : Nat} {v : Value} {xs : List Value} (h : Own w B 5 v xs) {g : Nat} {cs : List Value} (hb : Box w g 60 cs) : v.ownBlock ≠ some g := by
  rcases h.2 with ⟨rfl, _⟩ | ⟨g2, cap, cur, rfl, _, hh, _⟩
  · simp [Value.ownBlock]
  · intro e
    have e : g2 = g := by simpa [Value.ownBlock] using e
    subst e
    have hb2 : w.heap[g2]? = some (.cells cs.toArray 60 (0, 0)) := hb
    rw [hh] at hb2
    injection hb2 with hb3
    injection hb3 with _ h4 _
    exact absurd h4 (by decide)
theorem Own.neT {w : World} {B B' : Nat} {v vt : Value} {xs : List Value} {ts : List Tk} (h : Own w B 5 v xs) (ht : OwnT w B' vt ts) : vt.ownBlock = none ∨ vt.ownBlock ≠ v.ownBlock := by
  rcases ht.2 with ⟨rfl, _⟩ | ⟨g1, cap1, cur1, rfl, _, hh1, _⟩
  · exact .inl rfl
  · right
    rcases h.2 with ⟨rfl, _⟩ | ⟨g2, cap, cur, rfl, _, hh, _⟩
    · simp [Value.ownBlock]
    · intro e
      have e : g1 = g2 := by simpa [Value.ownBlock] using e
      subst e
      rw [hh] at hh1
      injection hh1 with hb3
      injection hb3 with _ h4 _
      exact absurd h4 (by decide)
theorem Own.slice {w : World} {B : Nat} {e : TypeId} {v : Value} {xs : List Value} (h : Own w B e v xs) : ∃ a c, v = .slice a xs.length c := by
  rcases h.2 with ⟨rfl, hn⟩ | ⟨g, cap, cur, rfl, _⟩
  · exact ⟨none, 0, by rw [hn]⟩
  · exact ⟨_, cap, rfl⟩
set_option maxRecDepth 100000 in
set_option maxHeartbeats 16000000 in
theorem text_any (g : Nat) (vb : Value) (b : List UInt8) (i : Nat) (keep : Bool) (n : Int) (vt : Value) (ts : List Tk) (B : Nat) (w : World) (hs : Scan w g vb i keep n vt) (ht : TextB w B vb b) (ho : OwnT w B vt ts) (hB : B ≤ g) (hn0 : 0 ≤ n) (hn1 : n ≤ 5000000) (hl : ts.length ≤ 5000000) (hi : i < b.length) :
    Calls Try.prog 49 #[.pointer (some ⟨g, 0, none⟩)] w fun e w' => e = .returned (.bool (strM b (i + 1) []).2.2) ∧ Behind w w' g B vb keep n ts (7, i, (strM b (i + 1) []).1) (strM b (i + 1) []).2.1 (strM b (i + 1) []).2.2 := by
  have hm := ht.le
  have c1 : w.cell? ⟨g, 1, none⟩ = some (.int .i64 i) := hs.c1
  have fz : w.frozen? ⟨g, 1, none⟩ = false := Box.frozen hs 1
  have hne := ho.ne hs
  have hlt := Box.lt hs
  have HS1 := Lib.hid (hs.to0 (i + 1) ((i : Int) + 1) (by omega))
  have HG1 := Lib.hid (grown_to0 (grown_refl w (some g)) 1 (.int .i64 ((i : Int) + 1)))
  have HO1 := Lib.hid (ho.kept HG1.out (.inr hne))
  have HB1 := Lib.hid (below_grown HG1.out (by omega) (fun k hk => by injection hk with hk; omega) : Below B w _)
  have HT := Lib.hid ht
  clear hs ht ho
  go_enter Try.func49, Try.ntmps49
  go_wp2_with fail
  go_loopw [4, 5, 6, 7, 8, 9, 10, 11, 12] (fun t4 t5 _ _ _ _ _ _ _ wr => ∃ (f p : Nat) (pre : List UInt8), f ≤ p ∧ p ≤ b.length ∧ t4 = .int .i64 f ∧ pre.length + (p - f) ≤ 4 * p ∧ Hid (strM b (i + 1) [] = strM b p (pre ++ sub8 b f p)) ∧ Own wr B 5 t5 ((if keep = true then pre else []).map u8V) ∧ Scan wr g vb p keep n vt ∧ OwnT wr B vt ts ∧ Below B w wr) (fun _ _ _ _ _ _ _ _ _ wr => leftOf g (b.length + 1) wr)
  case atStart => exact ⟨i + 1, i + 1, [], Nat.le_refl _, by omega, by first | rfl | go_num, by simp, Lib.hid (by rw [sub8_self]; rfl), by cases keep <;> exact Own.nil _ _ _, HS1.out, HO1.out, HB1.out⟩
  case round =>
    obtain ⟨f, p, pre, hfp, hpl, rfl, hpre, HE, how, hs, hot, hbw⟩ := hrel
    have HOW := Lib.hid how
    have HSr := Lib.hid hs
    have HOr := Lib.hid hot
    have HBr := Lib.hid hbw
    have HTr := Lib.hid (HT.out.below hbw)
    have d0 : wr.cell? ⟨g, 0, none⟩ = some vb := by rw [Box.cell hs]; rfl
    have d1 : wr.cell? ⟨g, 1, none⟩ = some (.int .i64 p) := hs.c1
    have f1 : wr.frozen? ⟨g, 1, none⟩ = false := Box.frozen hs 1
    have hgw := Box.lt hs
    clear how hs hot hbw
    obtain ⟨a, cap, e, h1, h2, -, h4⟩ := HTr.out.is
    subst e
    have hmaxc := h2
    unfold maxLen at h2
    by_cases hlt2 : p < b.length
    · obtain ⟨bb, off, rfl, hc⟩ := h4 (by omega)
      have hcell : wr.cell? ⟨bb, off + p, none⟩ = some (.int .u8 (byt b p)) := hc.at p hlt2
      have hltI : (p : Int) < (b.length : Int) := by omega
      have HC := Lib.hid hc
      have HST := Lib.hid (HE.out.trans (strM_step b p _ hlt2))
      clear hc h4
      by_cases k1 : byt b p = 34
      · have HF : Hid (strM b (i + 1) [] = (pre ++ sub8 b f p, p + 1, true)) := Lib.hid (by rw [HST.out, if_pos k1])
        have g1 : (byt b p == 34) = true := by rw [k1]; rfl
        have HK := Lib.hid (fun k => kept_any g _ b p keep n vt u5 (if keep = true then pre else []) B f p (wr.drewN k) (Box.drew HSr.out k) ((HTr.out.at hB).drew k) HOW.out (by show B ≤ wr.heap.size; omega) hfp hpl (by cases keep <;> simp; omega))
        obtain ⟨sv, hsv⟩ : ∃ sv : List UInt8, (if keep = true then (if keep = true then pre else []) ++ sub8 b f p else []) = sv := ⟨_, rfl⟩
        rw [hsv] at HK
        have HSV := Lib.hid hsv
        clear k1 hsv
        go_wp2_with fail
        go_quiet (fail)
        go_wp2_with fail
        go_quiet (fail)
        go_wp2_with fail
        refine (HK.out _).mono ?_
        rintro e x1 ⟨rfl, hg1⟩
        have HS2 := Lib.hid (Box.grown HSr.out (grownBy_trans (grownBy_drew _ _ _) hg1) (HOW.out.neBox HSr.out))
        have HO2 := Lib.hid (HOr.out.kept (grownBy_trans (grownBy_drew _ _ _) hg1) (HOW.out.neT HOr.out))
        have HB2 := Lib.hid (HBr.out.grown (grownBy_trans (grownBy_drew _ _ _) hg1) (by omega) (fun k hk => (HOW.out.row k hk).1))
        clear hg1
        go_wp2_with fail
        refine (put_any g _ p keep n vt ts B 7 i sv x1 HS2.out HO2.out hB hn0 hn1 hl).mono ?_
        rintro e x2 ⟨rfl, vt2, hs3, ho3, hb3⟩
        have HS3 := Lib.hid hs3
        have HO3 := Lib.hid ho3
        have HB3 := Lib.hid hb3
        have e1 : x2.cell? ⟨g, 1, none⟩ = some (.int .i64 p) := hs3.c1
        have e2 : x2.frozen? ⟨g, 1, none⟩ = false := Box.frozen hs3 1
        clear hs3 ho3 hb3
        go_wp2_with fail
        go_ret
        refine ⟨ret_b (by rw [HF.out]), ?_⟩
        rw [HF.out]
        refine ⟨vt2, HS3.out.to0 (p + 1) _ (by omega), ?_, (HB2.out.trans HB3.out).setCell hB _⟩
        have h := HO3.out.kept (grownBy_set x2 g 1 (.int .i64 ((p : Int) + 1))) (.inr (HO3.out.ne HS3.out))
        rw [← HSV.out] at h
        cases keep with
        | true => exact h
        | false => exact h
      have g1 : (byt b p == 34) = false := by simpa using k1
      by_cases k2 : byt b p = 92
      · have he := escM_bd b p hlt2
        have HES := Lib.hid (fun k => escape_any g _ b p keep n vt (wr.drewN k) (Box.drew HSr.out k) ((HTr.out.at hB).drew k) hlt2)
        have HEL : Hid ((escM b p).1.length ≤ 4) := Lib.hid (by
          unfold escM
          split
          · split
            · exact (encR_len _).2
            · simp
          · split <;> simp)
        have HNF : Hid ((escM b p).2.2 = true → strM b (i + 1) [] = strM b (escM b p).2.1 (pre ++ sub8 b f p ++ (escM b p).1)) := Lib.hid (fun ho => by
          rw [HST.out, if_neg k1, if_pos k2, if_pos ho])
        have HNO : Hid ((escM b p).2.2 = false → strM b (i + 1) [] = ([], (escM b p).2.1, false)) := Lib.hid (fun ho => by
          rw [HST.out, if_neg k1, if_pos k2, if_neg (by rw [ho]; simp)])
        obtain ⟨R, hR⟩ : ∃ R, escM b p = R := ⟨_, rfl⟩
        rw [hR] at HES HEL HNF HNO he
        have g2 : (byt b p == 92) = true := by rw [k2]; rfl
        clear hR k1 k2
        obtain ⟨eb, q, ok⟩ := R
        have he1 : p < q := he.1
        have he2 : q ≤ b.length := he.2
        have HX2 : Hid (∀ k, Calls Try.prog 54 #[.pointer (some ⟨g, 0, none⟩)] (wr.drewN k) fun e w' => ∃ v', e = .returned (.tuple #[v', .bool ok]) ∧ (ok = true → Own w' (wr.drewN k).heap.size 5 v' (eb.map u8V)) ∧ Scan w' g (.slice (some ⟨bb, off, none⟩) b.length cap) q keep n vt ∧ (wr.drewN k).grownBy w' (some g)) := Lib.hid HES.out
        have HF2 : Hid (ok = true → strM b (i + 1) [] = strM b q (pre ++ sub8 b f p ++ eb)) := Lib.hid HNF.out
        have HO2' : Hid (ok = false → strM b (i + 1) [] = ([], q, false)) := Lib.hid HNO.out
        have HEL2 : Hid (eb.length ≤ 4) := Lib.hid HEL.out
        have q1 : ¬ cap - f = 0 := by omega
        have q2 : ¬ cap ≤ f := by omega
        have q3 : (f : Int) ≤ (p : Int) := by omega
        have q4 : (p : Int) ≤ (cap : Int) := by omega
        clear he HES HNF HNO HEL
        go_wp2_with fail
        go_quiet (fail)
        go_wp2_with fail
        go_quiet (fail)
        go_wp2_with fail
        go_quiet (fail)
        go_wp2_with fail
        refine (HX2.out _).mono ?_
        rintro e x1 ⟨v1, rfl, hov, hs2, hg2⟩
        have HGX := Lib.hid (grownBy_trans (grownBy_drew wr _ (some g)) hg2)
        have HS2 := Lib.hid hs2
        have HO2 := Lib.hid (HOr.out.kept HGX.out (.inr (HOr.out.ne HSr.out)))
        have HB2 := Lib.hid (HBr.out.grown HGX.out (by omega) (fun k hk => by injection hk with hk; omega))
        have d2 : x1.cell? ⟨g, 2, none⟩ = some (.bool keep) := by rw [Box.cell hs2]; rfl
        have e1 : x1.cell? ⟨g, 1, none⟩ = some (.int .i64 q) := hs2.c1
        have HOV := Lib.hid hov
        clear hs2 hg2 hov
        cases ok with
        | false =>
          have HF := Lib.hid (HO2'.out rfl)
          go_wp2_with fail
          go_ret
          refine ⟨ret_b (by rw [HF.out]), ?_⟩
          rw [HF.out]
          exact ⟨vt, HS2.out, HO2.out, HB2.out⟩
        | true =>
          have HF : Hid (strM b (i + 1) [] = strM b q (pre ++ sub8 b f p ++ eb ++ sub8 b q q)) := Lib.hid (by rw [HF2.out rfl, sub8_self, List.append_nil])
          have HEL3 := HEL2.out
          have hsl := sub8_len hfp hpl
          have hpre2 : (pre ++ sub8 b f p ++ eb).length + (q - q) ≤ 4 * q := by simp; omega
          have HW2 := Lib.hid (Own.kept HOW.out HGX.out (.inr (HOW.out.neBox HSr.out)))
          cases keep with
          | false =>
            go_wp2_with fail
            exact ⟨⟨q, q, pre ++ sub8 b f p ++ eb, Nat.le_refl _, he2, rfl, hpre2, HF, HW2.out, HS2.out, HO2.out, HB2.out⟩, by rw [leftOf_eq HS2.out, leftOf_eq HSr.out]; omega⟩
          | true =>
            have HT2 := Lib.hid (HT.out.below HB2.out)
            have HCX : Hid (Cells x1 bb off b.length (u8At b)) := Lib.hid (HC.out.grown (by omega) HGX.out (by
              intro e
              injection e with e
              have := HTr.out.lt (by omega) bb off _ _ rfl
              omega))
            have H8 := Lib.hid (Is8.subAt HCX.out f p hfp hpl h1 hmaxc)
            have hsz := HB2.out.size
            have hszg := HGX.out.size
            have hone : ∀ j, j < (sub8 b f p).length → (u8At (sub8 b f p) j).oneCell' = true := fun _ _ => rfl
            have hc2 : ((pre.map u8V).length + (sub8 b f p).length) * 1 ≤ 140737488355328 := by simp; omega
            have hc3 : (pre.map u8V).length + (sub8 b f p).length ≤ 9223372036854775807 := by simp; omega
            have hone2 : ∀ j, j < eb.length → (u8At eb j).oneCell' = true := fun _ _ => rfl
            have hc4 : (((pre ++ sub8 b f p).map u8V).length + eb.length) * 1 ≤ 140737488355328 := by simp; omega
            have hc5 : ((pre ++ sub8 b f p).map u8V).length + eb.length ≤ 9223372036854775807 := by simp; omega
            clear hsl
            go_wp2_with (at_builtin; refine wpList_appS _ rfl _ _ 22 rfl B 5 (.int .u8 0) 1 ok8 _ _ rfl HW2.out _ _ _ rfl H8.out hone hc2 hc3 (by omega) ?_)
            intro v3 w3 hown3 hgr3
            rw [u8At_range, ← List.map_append] at hown3
            have HW3 := Lib.hid hown3
            have HG3 := Lib.hid hgr3
            have HS3 := Lib.hid (Box.grown HS2.out hgr3 (HW2.out.neBox HS2.out))
            have HO3 := Lib.hid (HO2.out.kept hgr3 (HW2.out.neT HO2.out))
            have HB3 := Lib.hid (HB2.out.grown hgr3 (by omega) (fun k hk => (HW2.out.row k hk).1))
            have HV3 : Hid (Own w3 wr.heap.size 5 v1 (eb.map u8V)) := Lib.hid (Own.kept (HOV.out (by first | trivial | rfl)) hgr3 (by
              cases hv : v1.ownBlock with
              | none => exact .inl rfl
              | some k1 =>
                right
                intro e
                have b1 := ((HOV.out (by first | trivial | rfl)).row k1 hv).1
                have b2 := (HOW.out.row k1 e.symm).2
                have b1 : wr.heap.size ≤ k1 := b1
                omega))
            have hsz3 := HB3.out.size
            clear hown3 hgr3
            go_wp2_with (at_builtin; refine wpList_appS _ rfl _ _ 22 rfl B 5 (.int .u8 0) 1 ok8 _ _ rfl HW3.out _ _ _ rfl HV3.out.is8 hone2 hc4 hc5 (by omega) ?_)
            intro v4 w4 hown4 hgr4
            rw [u8At_range, ← List.map_append] at hown4
            have HW4 : Hid (Own w4 B 5 v4 ((pre ++ sub8 b f p ++ eb).map u8V)) := Lib.hid (by simpa [List.map_append, List.append_assoc] using hown4)
            have HS4 := Lib.hid (Box.grown HS3.out hgr4 (HW3.out.neBox HS3.out))
            have HO4 := Lib.hid (HO3.out.kept hgr4 (HW3.out.neT HO3.out))
            have HB4 := Lib.hid (HB3.out.grown hgr4 (by omega) (fun k hk => (HW3.out.row k hk).1))
            have e4 : w4.cell? ⟨g, 1, none⟩ = some (.int .i64 q) := Scan.c1 HS4.out
            clear hown4 hgr4
            go_wp2_with fail
            exact ⟨⟨q, q, pre ++ sub8 b f p ++ eb, Nat.le_refl _, he2, rfl, hpre2, HF, HW4.out, HS4.out, HO4.out, HB4.out⟩, by rw [leftOf_eq HS4.out, leftOf_eq HSr.out]; omega⟩
      have g2 : (byt b p == 92) = false := by simpa using k2
      by_cases k3 : byt b p < 32
      · have HF : Hid (strM b (i + 1) [] = ([], p, false)) := Lib.hid (by rw [HST.out, if_neg k1, if_neg k2, if_pos k3])
        clear k1 k2
        go_wp2_with fail
        go_quiet (fail)
        go_wp2_with fail
        go_quiet (fail)
        go_wp2_with fail
        go_ret
        refine ⟨ret_b (by rw [HF.out]), ?_⟩
        rw [HF.out]
        exact ⟨vt, Box.drew HSr.out _, HOr.out, below_drewN HBr.out _⟩
      have k3' : 32 ≤ byt b p := by omega
      by_cases k4 : byt b p < 128
      · have hnx : nextL (b.drop p) = (byt b p, 1, true) := by
          have e0 : byt (b.drop p) 0 = byt b p := by rw [byt_drop]; rfl
          unfold nextL
          rw [if_neg (by simp; omega), e0, if_pos (by omega)]
        have HF : Hid (strM b (i + 1) [] = strM b (p + 1) (pre ++ sub8 b f (p + 1))) := Lib.hid (by
          rw [HST.out, if_neg k1, if_neg k2, if_neg k3, hnx, if_pos rfl]
          show strM b (p + 1) (pre ++ sub8 b f p ++ sub8 b p (p + 1)) = _
          rw [List.append_assoc, sub8_join hfp (by omega) (by omega)])
        clear k1 k2 hnx
        go_wp2_with fail
        go_quiet (fail)
        go_wp2_with fail
        go_quiet (fail)
        go_wp2_with fail
        refine ⟨⟨f, p + 1, pre, by omega, by omega, rfl, by omega, HF, ?_, HSr.out.to _ (p + 1) _ (by omega), ?_, ?_⟩, by rw [leftOf_eq (HSr.out.to _ (p + 1) _ (by omega)), leftOf_eq HSr.out]; omega⟩
        · exact Own.kept HOW.out (grown_to (grown_refl _ (some g)) _ 1 _) (.inr (HOW.out.neBox HSr.out))
        · exact HOr.out.kept (grown_to (grown_refl _ (some g)) _ 1 _) (.inr (HOr.out.ne HSr.out))
        · exact (below_drewN HBr.out _).setCell hB _
      · have k4' : 128 ≤ byt b p := by omega
        have hnb := nextL_n (b.drop p) (by simp; omega)
        have hll : (b.drop p).length = b.length - p := by simp
        have hcp : p < cap := by omega
        have H8 : Hid (Is8 wr (.slice (some ⟨bb, off + p, none⟩) (b.length - p) (cap - p)) (b.drop p)) := Lib.hid (Is8.dropAt HC.out p hlt2 h1 hmaxc)
        have HNX := Lib.hid (fun k => next_any _ (b.drop p) (wr.drewN k) H8.out (by simp; omega))
        have HNF : Hid ((nextL (b.drop p)).2.2 = true → strM b (i + 1) [] = strM b (p + (nextL (b.drop p)).2.1) (pre ++ sub8 b f (p + (nextL (b.drop p)).2.1))) := Lib.hid (fun ho => by
          rw [HST.out, if_neg k1, if_neg k2, if_neg k3, if_pos ho, List.append_assoc, sub8_join hfp (by omega) (by omega)])
        have HNO : Hid ((nextL (b.drop p)).2.2 = false → strM b (i + 1) [] = ([], p, false)) := Lib.hid (fun ho => by
          rw [HST.out, if_neg k1, if_neg k2, if_neg k3, if_neg (by rw [ho]; simp)])
        obtain ⟨R, hR⟩ : ∃ R, nextL (b.drop p) = R := ⟨_, rfl⟩
        rw [hR] at HNX HNF HNO hnb
        clear hR k1 k2
        obtain ⟨r, m, ok⟩ := R
        have hnb1 : 1 ≤ m := hnb.1
        have hnb2 : m ≤ b.length - p := by have : m ≤ (b.drop p).length := hnb.2.1; omega
        have HX2 : Hid (∀ k, Calls Try.prog 41 #[.slice (some ⟨bb, off + p, none⟩) (b.length - p) (cap - p)] (wr.drewN k) fun e w' => e = .returned (.tuple #[.int .i32 r, .int .i64 (m : Nat), .bool ok]) ∧ ∃ n, w' = (wr.drewN k).drewN n) := Lib.hid HNX.out
        have HF2 : Hid (ok = true → strM b (i + 1) [] = strM b (p + m) (pre ++ sub8 b f (p + m))) := Lib.hid HNF.out
        have HO2' : Hid (ok = false → strM b (i + 1) [] = ([], p, false)) := Lib.hid HNO.out
        have q0 : (cap - p == 0) = false := by rw [beq_eq_false_iff_ne]; omega
        have q1 : ¬ cap - p = 0 := by omega
        have q2 : ¬ cap ≤ p := by omega
        clear hnb HNX HNF HNO
        cases ok with
        | false =>
          have HF := Lib.hid (HO2'.out rfl)
          go_wp2_with fail
          go_quiet (fail)
          go_wp2_with fail
          go_quiet (fail)
          go_wp2_with fail
          go_quiet ((go_at_call 41; exact quietD (HX2.out _)))
          go_wp2_with fail
          go_ret
          refine ⟨ret_b (by rw [HF.out]), ?_⟩
          rw [HF.out]
          exact ⟨vt, Box.drew HSr.out _, HOr.out, below_drewN HBr.out _⟩
        | true =>
          have HF := Lib.hid (HF2.out rfl)
          go_wp2_with fail
          go_quiet (fail)
          go_wp2_with fail
          go_quiet (fail)
          go_wp2_with fail
          go_quiet ((go_at_call 41; exact quietD (HX2.out _)))
          go_wp2_with fail
          refine ⟨⟨f, p + m, pre, by omega, by omega, rfl, by omega, HF, ?_, HSr.out.to _ (p + m) _ (by omega), ?_, ?_⟩, by rw [leftOf_eq (HSr.out.to _ (p + m) _ (by omega)), leftOf_eq HSr.out]; omega⟩
          · exact Own.kept HOW.out (grown_to (grown_refl _ (some g)) _ 1 _) (.inr (HOW.out.neBox HSr.out))
          · exact HOr.out.kept (grown_to (grown_refl _ (some g)) _ 1 _) (.inr (HOr.out.ne HSr.out))
          · exact (below_drewN HBr.out _).setCell hB _
    · have HF : Hid (strM b (i + 1) [] = ([], p, false)) := Lib.hid (by rw [HE.out, strM_end b p _ (by omega)])
      have hltI : (b.length : Int) ≤ (p : Int) := by omega
      clear h4
      go_wp2_with fail
      go_quiet (fail)
      go_wp2_with fail
      go_ret
      refine ⟨ret_b (by rw [HF.out]), ?_⟩
      rw [HF.out]
      exact ⟨vt, Box.drew HSr.out _, HOr.out, below_drewN HBr.out _⟩
end Go.Proofs.Ytkdmmmheciffgaa
