/- Chapter 16's own answer. -/
import Derived.Test.YtedfgikikjggaaaDoorLnkP
import Derived.Test.YtedfgikikjggaaaDoorMc1
import Derived.Test.YtedfgikikjggaaaDoorRfC
import Derived.Test.YtedfgikikjggaaaDoorRfA
import Derived.Test.YtedfgikikjggaaaDoorParts
set_option linter.unusedVariables false
set_option linter.unusedSimpArgs false
namespace Go.Proofs.YtedfgikikjggaaaDoor
open Go.RowKit

/-- A tree of the answer's that was asked so often. -/
def RAt (w : World) (B t : Nat) (all : List Nd) (z : Int) : Prop := ∃ v', Box w t 33 [v', .int .i64 z] ∧ OwnN w B v' all
theorem RAt.below {w w' : World} {B t : Nat} {all : List Nd} {z : Int} (h : RAt w B t all z) (hb : Below w.heap.size w w') : RAt w' B t all z := by
  obtain ⟨v, h1, h2⟩ := h
  exact ⟨v, h1.below hb h1.lt, h2.below hb⟩
theorem RAt.lt {w : World} {B t : Nat} {all : List Nd} {z : Int} (h : RAt w B t all z) : t < w.heap.size := by
  obtain ⟨v, h1, h2⟩ := h; exact h1.lt
theorem cutF_eq (p : Bts) : cutF p = partF p := by
  unfold cutF
  split
  · rename_i h; subst h; rfl
  · rfl
/-- All but the first text. -/
theorem IsStr.rest {w : World} {a : Option Addr} {cap : Nat} {s : Bts} {l : List Bts} (h : IsStr w (.slice a (s :: l).length cap) (s :: l)) :
    ∃ b off, a = some ⟨b, off, none⟩ ∧ 1 ≤ cap ∧ w.cell? ⟨b, off, none⟩ = some (.string ⟨s.toArray⟩) ∧ IsStr w (.slice (some ⟨b, off + 1, none⟩) l.length (cap - 1)) l ∧ (cap - 1 = 0 → l = [] ∧ IsStr w (.slice (some ⟨b, off, none⟩) 0 0) []) := by
  obtain ⟨a', cap', e, h1, h2, -, h3⟩ := h
  injection e with e1 _ e3
  subst e1; subst e3
  obtain ⟨b, off, rfl, hc⟩ := h3 (by simp)
  have h5 : 1 ≤ cap := by simp at h1; omega
  refine ⟨b, off, rfl, h5, hc 0 (by simp), ⟨_, _, rfl, by simp at h1; omega, by omega, (fun h => by cases h), fun h0 => ⟨b, off + 1, rfl, fun i hi => ?_⟩⟩, fun h0 => ⟨?_, ⟨_, _, rfl, Nat.le_refl _, by unfold maxLen; omega, (fun h => by cases h), fun h0 => absurd h0 (by simp)⟩⟩⟩
  · have := hc (i + 1) (by simp; exact hi)
    rw [show off + 1 + i = off + (i + 1) by omega, this]
    simp [strAt]
  · simp at h1
    exact List.eq_nil_of_length_eq_zero (by omega)
set_option maxRecDepth 100000 in
set_option maxHeartbeats 16000000 in
theorem rReal_any (t B : Nat) (all : List Nd) (z : Int) (p : Bts) (w : World) (hr : RAt w B t all z) (hta : TreeOf all) (hal : all.length ≤ 1000000) (hz0 : 0 ≤ z) (hz1 : z ≤ 1000000) (hp : p.length ≤ 900000) :
    Calls Tryd.prog 12 #[.pointer (some ⟨t, 0, none⟩), .string ⟨p.toArray⟩] w fun e w' => e = .returned (realV all p) ∧ RAt w' B t all (z + 1) ∧ w.grownBy w' (some t) := by
  obtain ⟨sv, hbx, hown⟩ := hr
  obtain ⟨sa, sc, rfl, -⟩ := hown.isNds
  have k1 : w.cell? ⟨t, 1, none⟩ = some (.int .i64 z) := by rw [hbx.cell]; rfl
  have f1 : w.frozen? ⟨t, 1, none⟩ = false := hbx.frozen 1
  have hzw : IntKind.i64.wrap (z + 1) = z + 1 := IntWalk.i64_in _ (by omega)
  have hg := grownBy_set w t 1 (.int .i64 (z + 1))
  have HBX := Lib.hid (hbx.set 1 (by simp) (.int .i64 (z + 1)))
  have HOW := Lib.hid (hown.kept hg (.inr (hown.ne15 hbx)))
  have HG := Lib.hid hg
  have HPO : Hid (∀ W, Below (w.setCell ⟨t, 1, none⟩ (.int .i64 (z + 1))).heap.size (w.setCell ⟨t, 1, none⟩ (.int .i64 (z + 1))) W → RAt W B t all (z + 1) ∧ w.grownBy W (some t)) := Lib.hid (fun W hb => ⟨⟨_, HBX.out.below hb HBX.out.lt, HOW.out.below hb⟩, grownBy_trans HG.out (grownBy_below hb _)⟩)
  clear hbx hown hg
  obtain ⟨w1, hw1⟩ : ∃ W, w.setCell ⟨t, 1, none⟩ (.int .i64 (z + 1)) = W := ⟨_, rfl⟩
  rw [hw1] at HPO HBX HOW
  by_cases h47 : p.head? = some 47
  · obtain ⟨r, rfl⟩ := cons_of_head h47
    have e0 : (byt (47 :: r) 0 != 47) = false := rfl
    have HPR := Lib.hid (fun w => Parts_any (47 :: r) 47 w (by omega) (by decide) (by decide))
    obtain ⟨R, hR⟩ : ∃ R, goL all 40 (splitB 47 (47 :: r)) [47] 2 = R := ⟨_, rfl⟩
    have HV : Hid (realV all (47 :: r) = resV R) := Lib.hid (by unfold realV; rw [if_pos h47, hR])
    have HR := Lib.hid hR
    have hsl := (splitB_len 47 (47 :: r)).1
    obtain ⟨p, hpp⟩ : ∃ p, 47 :: r = p := ⟨_, rfl⟩
    rw [hpp] at e0 HPR HV HR hsl hp ⊢
    have e1 : (p == []) = false := by rw [← hpp]; rfl
    have e2 : p.isEmpty = false := by rw [← hpp]; rfl
    have e3 : ¬ (1048576 : Int) < (p.length : Int) := by omega
    have e4 : (0 : Int) < (p.length : Int) := by rw [← hpp, List.length_cons]; omega
    have e5 : byt p 0 = 47 := by rw [← hpp]; rfl
    have e6 : 0 < p.length := by omega
    clear hR h47 hpp
    go_enter Tryd.func12, Tryd.ntmps12
    go_wp2_with fail
    refine (HPR.out _).mono ?_
    rintro e w6 ⟨v6, rfl, hown6, hb6⟩
    have HSPM0 : Hid (∀ s ∈ splitB 47 p, s.length ≤ 900000) := Lib.hid (fun s hs => Nat.le_trans (splitB_mem 47 p s hs) hp)
    obtain ⟨sp, hsp⟩ : ∃ sp, splitB 47 p = sp := ⟨_, rfl⟩
    have HSPM : Hid (∀ s ∈ sp, s.length ≤ 900000) := Lib.hid (by rw [← hsp]; exact HSPM0.out)
    clear HSPM0
    rw [show splitB (47 : Int) p = sp from hsp] at hown6 hsl HR
    have HS6 := Lib.hid hown6.isStr
    obtain ⟨va, vc, rfl, -⟩ := hown6.isStr
    have HB6 := Lib.hid hb6
    clear hown6 hb6 HPR hsp
    obtain ⟨M, hM⟩ : ∃ M : Nat, M = 1000001 := ⟨_, rfl⟩
    go_wp2_with fail
    go_loopw [7, 8, 9, 10] (fun t7 t8 t9 t10 wr => ∃ (left : List Bts) (a : Option Addr) (cap : Nat) (h : Bts) (n : Nat) (k : Int), t7 = .slice a left.length cap ∧ Hid (IsStr wr (.slice a left.length cap) left) ∧ t8 = .string ⟨h.toArray⟩ ∧ t9 = .int .i64 (n : Int) ∧ t10 = .int .i64 k ∧ n ≤ 40 ∧ left.length ≤ M + n * 1025 ∧ Hid (∀ s ∈ left, s.length ≤ 900000) ∧ Hid (AtN all h k) ∧ Hid (goL all (40 - n) left h k = R) ∧ Hid (Below w1.heap.size w1 wr)) (fun t7 _ t9 _ _ => (40 - (intOf t9).toNat) * 1100 + (match t7 with | .slice _ l _ => l | _ => 0))
    case atStart => exact ⟨sp, va, vc, [47], 0, 2, rfl, HS6, rfl, rfl, rfl, by decide, by omega, HSPM, Lib.hid hta.rootAt, HR, HB6⟩
    case round =>
      obtain ⟨left, a, cap, h, n, k, rfl, HS, rfl, rfl, rfl, hn, hll, HLM, HAT, HGO, HB⟩ := hrel
      cases left with
      | nil =>
        have HF : Hid (resV R = .tuple #[.string ⟨h.toArray⟩, .int .i64 k, .int .i64 0]) := Lib.hid (by
          have := HGO.out
          rw [goL_nil] at this
          rw [← this]; rfl)
        simp only [List.length_nil] at *
        go_wp2_with fail
        go_ret3
        rw [HV.out, HF.out]
        exact ⟨rfl, HPO.out _ HB.out⟩
      | cons A l =>
        obtain ⟨b, off, rfl, hc1, hcell, hst1, hst0⟩ := HS.out.rest
        have HS1 := Lib.hid hst1
        have HS0 := Lib.hid hst0
        clear hst1 hst0
        have hl0 : (0 : Int) < ((A :: l).length : Int) := by rw [List.length_cons]; omega
        have hAl : A.length ≤ 900000 := HLM.out A (List.mem_cons_self ..)
        have HLM2 : Hid (∀ s ∈ l, s.length ≤ 900000) := Lib.hid (fun s hs => HLM.out s (List.mem_cons_of_mem _ hs))
        clear HLM
        have hll2 : l.length + 1 ≤ M + n * 1025 := by rw [List.length_cons] at hll; exact hll
        have hl1 : (1 : Int) ≤ ((A :: l).length : Int) := by omega
        have hl2 : ((A :: l).length : Int) ≤ (cap : Int) := by
          obtain ⟨a', cap', e, q1, q2, -⟩ := HS.out
          injection e with _ _ e3
          subst e3; omega
        have hcd : (cap = 1 ∧ l = []) ∨ 1 < cap := by
          rcases Nat.lt_or_ge 1 cap with h | h
          · exact .inr h
          · exact .inl ⟨by omega, (HS0.out (by omega)).1⟩
        rcases hcd with ⟨rfl, rfl⟩ | hcap
        · have HLX : Hid (IsStr wr (.slice (some ⟨b, off, none⟩) 0 0) []) := Lib.hid (HS0.out rfl).2
          clear HS0 HS1 HS
          have HL : Hid (IsStr wr (.slice (some ⟨b, off, none⟩) 0 0) []) := HLX
          rcases okPart_cases A with ⟨hok, hs | hs | hs⟩ | ⟨hok, n1, n2, n3⟩
          · subst hs
            have HG4 : Hid (goL all (40 - n) [] h k = R) := Lib.hid ((goL_skip all (40 - n) [] [] h k (.inl rfl)).symm.trans HGO.out)
            go_wp2_with fail
            exact ⟨⟨[], _, _, h, n, k, rfl, HL, rfl, rfl, rfl, hn, by omega, HLM2, HAT, HG4, HB⟩, by simp [intOf]⟩
          · subst hs
            have HG4 : Hid (goL all (40 - n) [] h k = R) := Lib.hid ((goL_skip all (40 - n) [46] [] h k (.inr rfl)).symm.trans HGO.out)
            go_wp2_with fail
            exact ⟨⟨[], _, _, h, n, k, rfl, HL, rfl, rfl, rfl, hn, by omega, HLM2, HAT, HG4, HB⟩, by simp [intOf]⟩
          · subst hs
            by_cases hk2 : k = 2
            · subst hk2
              have HG4 := Lib.hid ((goL_up all (40 - n) [] h).symm.trans HGO.out)
              have HA4 := Lib.hid (HAT.out.up hta)
              obtain ⟨-, hhl, -, rr, hhr⟩ := HAT.out.clean hta
              have HCT := Lib.hid (fun w => rCut_any rr w (by rw [← hhr]; omega))
              rw [← hhr] at HCT
              rw [cutF_eq] at HCT
              clear hhr
              go_wp2_with fail
              refine (HCT.out _).mono ?_
              rintro e w4 ⟨rfl, nn, rfl⟩
              go_wp2_with fail
              exact ⟨⟨[], _, _, _, n, 2, rfl, Lib.hid (HL.out.drew nn), rfl, rfl, rfl, hn, by omega, HLM2, HA4, HG4, Lib.hid (below_dr HB.out nn)⟩, by simp [intOf]⟩
            · have hk3 : (k != 2) = true := by simpa using hk2
              have HF : Hid (resV R = .tuple #[.string ⟨#[]⟩, .int .i64 0, .int .i64 13]) := Lib.hid (by rw [← HGO.out, goL_kind _ _ _ _ _ _ (by decide) hk2]; rfl)
              go_wp2_with fail
              go_ret3
              rw [HV.out, HF.out]
              exact ⟨rfl, HPO.out _ HB.out⟩
          · have b1 : (A == []) = false := by rw [beq_eq_false_iff_ne]; exact n1
            have b2 : (A == [46]) = false := by rw [beq_eq_false_iff_ne]; exact n2
            have b3 : (A == [46, 46]) = false := by rw [beq_eq_false_iff_ne]; exact n3
            have b4 : A.isEmpty = false := by cases A with | nil => exact absurd rfl n1 | cons _ _ => rfl
            by_cases hk2 : k = 2
            · subst hk2
              obtain ⟨-, hhl, -, -⟩ := HAT.out.clean hta
              obtain ⟨sv', HRX0, HRO0⟩ := (HPO.out _ HB.out).1
              have HRX := Lib.hid HRX0
              have HRO := Lib.hid HRO0
              have hm1 : h.length + ([47] : Bts).length ≤ 9223372036854775807 := by simp; omega
              have hm2 : (h ++ [47]).length + A.length ≤ 9223372036854775807 := by simp; omega
              have hm3 : ([47] : Bts).length + A.length ≤ 9223372036854775807 := by simp; omega
              clear HRX0 HRO0 n1 n2 n3
              by_cases hh : h = [47]
              · subst hh
                have hb0 : (([47] : Bts) == [47]) = true := rfl
                have HJ : joinL [47] A = 47 :: A := if_pos rfl
                have hnl : (47 :: A).length ≤ 1000000 := by rw [← HJ, joinL_len]; have := (joinL_nil_len [47]).2; omega
                have HLK := Lib.hid (rLook_any t sv' _ all (47 :: A) wr HRX.out HRO.out.isNds hta.rise hnl hal)
                cases hlk : lookN all (joinL [47] A) with
                | none =>
                  have HF : Hid (resV R = .tuple #[.string ⟨#[]⟩, .int .i64 0, .int .i64 13]) := Lib.hid (by rw [← HGO.out, goL_gone _ _ _ _ _ hok hlk]; rfl)
                  rw [HJ] at hlk
                  rw [hlk] at HLK
                  simp only [Option.getD_none, Option.isSome_none, ndV, nd0] at HLK
                  clear hlk HJ
                  go_wp2_with fail
                  refine HLK.out.mono ?_
                  rintro e w5 ⟨rfl, hb5⟩
                  have HB5 := Lib.hid (ext_trans HB.out hb5)
                  clear hb5
                  go_wp2_with fail
                  go_ret3
                  rw [HV.out, HF.out]
                  exact ⟨rfl, HPO.out _ (ext_trans HB5.out (ext_alloc _ _))⟩
                | some nd =>
                  obtain ⟨hnm, hnp⟩ := lookN_some hlk
                  have HSTEP : Hid (nd.k ≠ 3 → goL all (40 - n) [] (joinL [47] A) nd.k = R ∧ AtN all (joinL [47] A) nd.k) := Lib.hid (fun hk => ⟨by rw [← HGO.out, goL_step all (40 - n) A [] [47] nd hok hlk hk], ⟨nd, hlk, rfl, hk⟩⟩)
                  have HLOOP : Hid (nd.k = 3 → n = 40 → R = .loop) := Lib.hid (fun hk hn4 => by
                    subst hn4
                    rw [← HGO.out, show 40 - 40 = 0 from rfl, goL_loop all A [] [47] nd hok hlk hk])
                  have HLINK : Hid (nd.k = 3 → n < 40 → goL all (40 - (n + 1)) (splitB 47 nd.d ++ []) (if nd.d.head? = some 47 then [47] else [47]) 2 = R) := Lib.hid (fun hk hn4 => by
                    have h4 := goL_link all (40 - (n + 1)) A [] [47] nd hok hlk hk
                    rw [show 40 - (n + 1) + 1 = 40 - n by omega] at h4
                    rw [← h4]; exact HGO.out)
                  have HDL : Hid (nd.k = 3 → nd.d ≠ [] ∧ nd.d.length ≤ 1024) := Lib.hid (fun hk => hta.link hnm hk)
                  rw [HJ] at hlk HSTEP
                  rw [hlk] at HLK
                  simp only [Option.getD_some, Option.isSome_some, ndV] at HLK
                  obtain ⟨q, kd, d⟩ := nd
                  simp only at HSTEP HLOOP HLINK HDL HLK
                  clear hlk hnm hnp HJ
                  by_cases hkd : kd = 3
                  · subst hkd
                    obtain ⟨hd0, hdl⟩ := HDL.out rfl
                    have HLP := Lib.hid (HLOOP.out rfl)
                    have HLN := Lib.hid (HLINK.out rfl)
                    clear HSTEP HLOOP HLINK HDL
                    by_cases hn4 : n = 40
                    · subst hn4
                      have HF : Hid (resV R = .tuple #[.string ⟨#[]⟩, .int .i64 0, .int .i64 20]) := Lib.hid (by rw [HLP.out rfl]; rfl)
                      clear HLP HLN
                      go_wp2_with fail
                      refine HLK.out.mono ?_
                      rintro e w5 ⟨rfl, hb5⟩
                      have HB5 := Lib.hid (ext_trans HB.out hb5)
                      clear hb5
                      go_wp2_with fail
                      go_ret3
                      rw [HV.out, HF.out]
                      exact ⟨rfl, HPO.out _ (ext_trans HB5.out (ext_alloc _ _))⟩
                    · have hn5 : n < 40 := by omega
                      have hnI : ¬ (40 : Int) ≤ (n : Int) := by omega
                      have hnw : IntKind.i64.wrap ((n : Int) + 1) = (n : Int) + 1 := IntWalk.i64_in _ (by omega)
                      have hd1 : 0 < d.length := List.length_pos_iff.2 hd0
                      have hd2 : (0 : Int) < (d.length : Int) := by omega
                      have hhd : (d.head? = some 47 ∧ byt d 0 = 47) ∨ (d.head? ≠ some 47 ∧ byt d 0 ≠ 47) := by
                        cases d with
                        | nil => exact absurd rfl hd0
                        | cons c ds =>
                          by_cases hc : c = 47
                          · subst hc; exact .inl ⟨rfl, rfl⟩
                          · refine .inr ⟨fun e => hc (by simpa using e), fun e => hc (UInt8.toNat_inj.1 (by
                              have e2 : (c.toNat : Int) = 47 := e
                              have : c.toNat = 47 := by omega
                              exact this))⟩
                      have HPD := Lib.hid (fun w => Parts_any d 47 w (by omega) (by decide) (by decide))
                      have hspl := (splitB_len 47 d).1
                      have HA2 : Hid (AtN all [47] 2) := Lib.hid hta.rootAt
                      clear HLP
                      rcases hhd with ⟨hh1, hh2⟩ | ⟨hh1, hh2⟩
                      · have HG8 := Lib.hid (HLN.out hn5)
                        rw [if_pos hh1] at HG8
                        have hb47 : (byt d 0 == 47) = true := by rw [hh2]; rfl
                        clear HLN hh1
                        go_wp2_with fail
                        refine HLK.out.mono ?_
                        rintro e w5 ⟨rfl, hb5⟩
                        have HB5 := Lib.hid ((ext_trans HB.out hb5).alloc (ext_trans HB.out hb5).size (.cells #[.string ⟨q.toArray⟩, .int .i64 3, .string ⟨d.toArray⟩] 35))
                        have HL5 := Lib.hid ((HL.out.below hb5).below (ext_alloc w5 (.cells #[.string ⟨q.toArray⟩, .int .i64 3, .string ⟨d.toArray⟩] 35)))
                        clear hb5
                        go_wp2_with fail
                        refine (HPD.out _).mono ?_
                        rintro e w7 ⟨v7, rfl, hown7, hb7⟩
                        have HB7 := Lib.hid (HB5.out.trans (hb7.mono HB5.out.size))
                        have HL7 := Lib.hid (HL5.out.below hb7)
                        have HO7 := Lib.hid hown7
                        have hB7 := hb7.size
                        have HLM8 : Hid (∀ s ∈ splitB 47 d ++ [], s.length ≤ 900000) := Lib.hid (fun s hs => (List.mem_append.1 hs).elim (fun h => Nat.le_trans (splitB_mem 47 d s h) (by omega)) (HLM2.out s))
                        have hB1 := HB5.out.size
                        have hz1 : (((splitB 47 d).map strV).length + ([] : List Bts).length) * 16 ≤ 140737488355328 := by rw [List.length_map]; omega
                        have hz2 : ((splitB 47 d).map strV).length + ([] : List Bts).length ≤ 9223372036854775807 := by rw [List.length_map]; omega
                        have HRG : Hid (∀ (W : World) (B : Nat) (v : Value), Own W B 9 v ((splitB 47 d).map strV ++ (List.range ([] : List Bts).length).map (strAt [])) → Own W B 9 v ((splitB 47 d ++ []).map strV)) := Lib.hid (fun W B v h => by rw [List.map_append, ← strAt_range []]; exact h)
                        clear hown7 hb7
                        go_wp2_with (at_builtin; refine wpList_appS _ rfl _ _ 67 rfl _ 9 (.string .empty) 16 ok16 _ _ rfl HO7.out _ ([] : List Bts).length (strAt []) rfl HL7.out (fun _ _ => rfl) hz1 hz2 hB7 ?_)
                        intro v8 w8 hown8 hgr8
                        have ho8 := HRG.out w8 _ v8 (by first | exact hown8 | simpa using hown8)
                        have HST8 := Lib.hid ho8.isStr
                        obtain ⟨a8, c8, rfl, -⟩ := ho8.isStr
                        have HB8 : Hid (Below w1.heap.size w1 w8) := Lib.hid (HB7.out.grown hgr8 HB7.out.size (fun j hj => by have := (HO7.out.row j hj).1; omega))
                        clear hown8 hgr8
                        go_wp2_with fail
                        exact ⟨⟨_, a8, c8, [47], n + 1, 2, rfl, HST8, rfl, by go_num, rfl, by omega, by rw [List.length_append]; omega, HLM8, HA2, HG8, HB8⟩, by simp [intOf]; omega⟩
                      · have HG8 := Lib.hid (HLN.out hn5)
                        rw [if_neg hh1] at HG8
                        have hb47 : (byt d 0 == 47) = false := by rw [beq_eq_false_iff_ne]; exact hh2
                        clear HLN hh1
                        go_wp2_with fail
                        refine HLK.out.mono ?_
                        rintro e w5 ⟨rfl, hb5⟩
                        have HB5 := Lib.hid ((ext_trans HB.out hb5).alloc (ext_trans HB.out hb5).size (.cells #[.string ⟨q.toArray⟩, .int .i64 3, .string ⟨d.toArray⟩] 35))
                        have HL5 := Lib.hid ((HL.out.below hb5).below (ext_alloc w5 (.cells #[.string ⟨q.toArray⟩, .int .i64 3, .string ⟨d.toArray⟩] 35)))
                        clear hb5
                        go_wp2_with fail
                        refine (HPD.out _).mono ?_
                        rintro e w7 ⟨v7, rfl, hown7, hb7⟩
                        have HB7 := Lib.hid (HB5.out.trans (hb7.mono HB5.out.size))
                        have HL7 := Lib.hid (HL5.out.below hb7)
                        have HO7 := Lib.hid hown7
                        have hB7 := hb7.size
                        have HLM8 : Hid (∀ s ∈ splitB 47 d ++ [], s.length ≤ 900000) := Lib.hid (fun s hs => (List.mem_append.1 hs).elim (fun h => Nat.le_trans (splitB_mem 47 d s h) (by omega)) (HLM2.out s))
                        have hB1 := HB5.out.size
                        have hz1 : (((splitB 47 d).map strV).length + ([] : List Bts).length) * 16 ≤ 140737488355328 := by rw [List.length_map]; omega
                        have hz2 : ((splitB 47 d).map strV).length + ([] : List Bts).length ≤ 9223372036854775807 := by rw [List.length_map]; omega
                        have HRG : Hid (∀ (W : World) (B : Nat) (v : Value), Own W B 9 v ((splitB 47 d).map strV ++ (List.range ([] : List Bts).length).map (strAt [])) → Own W B 9 v ((splitB 47 d ++ []).map strV)) := Lib.hid (fun W B v h => by rw [List.map_append, ← strAt_range []]; exact h)
                        clear hown7 hb7
                        go_wp2_with (at_builtin; refine wpList_appS _ rfl _ _ 67 rfl _ 9 (.string .empty) 16 ok16 _ _ rfl HO7.out _ ([] : List Bts).length (strAt []) rfl HL7.out (fun _ _ => rfl) hz1 hz2 hB7 ?_)
                        intro v8 w8 hown8 hgr8
                        have ho8 := HRG.out w8 _ v8 (by first | exact hown8 | simpa using hown8)
                        have HST8 := Lib.hid ho8.isStr
                        obtain ⟨a8, c8, rfl, -⟩ := ho8.isStr
                        have HB8 : Hid (Below w1.heap.size w1 w8) := Lib.hid (HB7.out.grown hgr8 HB7.out.size (fun j hj => by have := (HO7.out.row j hj).1; omega))
                        clear hown8 hgr8
                        go_wp2_with fail
                        exact ⟨⟨_, a8, c8, _, n + 1, 2, rfl, HST8, rfl, by go_num, rfl, by omega, by rw [List.length_append]; omega, HLM8, HAT, HG8, HB8⟩, by simp [intOf]; omega⟩
                  · have hk3b : (kd != 3) = true := by simpa using hkd
                    obtain ⟨hg8, ha8⟩ := HSTEP.out hkd
                    have HG8 := Lib.hid hg8
                    have HA8 := Lib.hid ha8
                    clear HSTEP HLOOP HLINK HDL hg8 ha8
                    go_wp2_with fail
                    refine HLK.out.mono ?_
                    rintro e w5 ⟨rfl, hb5⟩
                    have HB5 := Lib.hid ((ext_trans HB.out hb5).alloc (ext_trans HB.out hb5).size (.cells #[.string ⟨q.toArray⟩, .int .i64 kd, .string ⟨d.toArray⟩] 35))
                    have HL5 := Lib.hid ((HL.out.below hb5).below (ext_alloc w5 (.cells #[.string ⟨q.toArray⟩, .int .i64 kd, .string ⟨d.toArray⟩] 35)))
                    clear hb5
                    go_wp2_with fail
                    go_quiet (fail)
                    go_wp2_with fail
                    exact ⟨⟨_, _, _, _, n, kd, rfl, HL5.out.drew _ |> Lib.hid, rfl, rfl, rfl, hn, by omega, HLM2, HA8, HG8, Lib.hid (below_dr HB5.out _)⟩, by simp [intOf]⟩
              · have hb0 : (h == [47]) = false := by rw [beq_eq_false_iff_ne]; exact hh
                have HJ : joinL h A = h ++ 47 :: A := if_neg hh
                have hnl : (h ++ 47 :: A).length ≤ 1000000 := by rw [← HJ, joinL_len]; have := (joinL_nil_len h).2; omega
                have HLK := Lib.hid (rLook_any t sv' _ all (h ++ 47 :: A) wr HRX.out HRO.out.isNds hta.rise hnl hal)
                cases hlk : lookN all (joinL h A) with
                | none =>
                  have HF : Hid (resV R = .tuple #[.string ⟨#[]⟩, .int .i64 0, .int .i64 13]) := Lib.hid (by rw [← HGO.out, goL_gone _ _ _ _ _ hok hlk]; rfl)
                  rw [HJ] at hlk
                  rw [hlk] at HLK
                  simp only [Option.getD_none, Option.isSome_none, ndV, nd0] at HLK
                  clear hlk HJ
                  go_wp2_with fail
                  refine HLK.out.mono ?_
                  rintro e w5 ⟨rfl, hb5⟩
                  have HB5 := Lib.hid (ext_trans HB.out hb5)
                  clear hb5
                  go_wp2_with fail
                  go_ret3
                  rw [HV.out, HF.out]
                  exact ⟨rfl, HPO.out _ (ext_trans HB5.out (ext_alloc _ _))⟩
                | some nd =>
                  obtain ⟨hnm, hnp⟩ := lookN_some hlk
                  have HSTEP : Hid (nd.k ≠ 3 → goL all (40 - n) [] (joinL h A) nd.k = R ∧ AtN all (joinL h A) nd.k) := Lib.hid (fun hk => ⟨by rw [← HGO.out, goL_step all (40 - n) A [] h nd hok hlk hk], ⟨nd, hlk, rfl, hk⟩⟩)
                  have HLOOP : Hid (nd.k = 3 → n = 40 → R = .loop) := Lib.hid (fun hk hn4 => by
                    subst hn4
                    rw [← HGO.out, show 40 - 40 = 0 from rfl, goL_loop all A [] h nd hok hlk hk])
                  have HLINK : Hid (nd.k = 3 → n < 40 → goL all (40 - (n + 1)) (splitB 47 nd.d ++ []) (if nd.d.head? = some 47 then [47] else h) 2 = R) := Lib.hid (fun hk hn4 => by
                    have h4 := goL_link all (40 - (n + 1)) A [] h nd hok hlk hk
                    rw [show 40 - (n + 1) + 1 = 40 - n by omega] at h4
                    rw [← h4]; exact HGO.out)
                  have HDL : Hid (nd.k = 3 → nd.d ≠ [] ∧ nd.d.length ≤ 1024) := Lib.hid (fun hk => hta.link hnm hk)
                  rw [HJ] at hlk HSTEP
                  rw [hlk] at HLK
                  simp only [Option.getD_some, Option.isSome_some, ndV] at HLK
                  obtain ⟨q, kd, d⟩ := nd
                  simp only at HSTEP HLOOP HLINK HDL HLK
                  clear hlk hnm hnp HJ
                  by_cases hkd : kd = 3
                  · subst hkd
                    obtain ⟨hd0, hdl⟩ := HDL.out rfl
                    have HLP := Lib.hid (HLOOP.out rfl)
                    have HLN := Lib.hid (HLINK.out rfl)
                    clear HSTEP HLOOP HLINK HDL
                    by_cases hn4 : n = 40
                    · subst hn4
                      have HF : Hid (resV R = .tuple #[.string ⟨#[]⟩, .int .i64 0, .int .i64 20]) := Lib.hid (by rw [HLP.out rfl]; rfl)
                      clear HLP HLN
                      go_wp2_with fail
                      refine HLK.out.mono ?_
                      rintro e w5 ⟨rfl, hb5⟩
                      have HB5 := Lib.hid (ext_trans HB.out hb5)
                      clear hb5
                      go_wp2_with fail
                      go_ret3
                      rw [HV.out, HF.out]
                      exact ⟨rfl, HPO.out _ (ext_trans HB5.out (ext_alloc _ _))⟩
                    · have hn5 : n < 40 := by omega
                      have hnI : ¬ (40 : Int) ≤ (n : Int) := by omega
                      have hnw : IntKind.i64.wrap ((n : Int) + 1) = (n : Int) + 1 := IntWalk.i64_in _ (by omega)
                      have hd1 : 0 < d.length := List.length_pos_iff.2 hd0
                      have hd2 : (0 : Int) < (d.length : Int) := by omega
                      have hhd : (d.head? = some 47 ∧ byt d 0 = 47) ∨ (d.head? ≠ some 47 ∧ byt d 0 ≠ 47) := by
                        cases d with
                        | nil => exact absurd rfl hd0
                        | cons c ds =>
                          by_cases hc : c = 47
                          · subst hc; exact .inl ⟨rfl, rfl⟩
                          · refine .inr ⟨fun e => hc (by simpa using e), fun e => hc (UInt8.toNat_inj.1 (by
                              have e2 : (c.toNat : Int) = 47 := e
                              have : c.toNat = 47 := by omega
                              exact this))⟩
                      have HPD := Lib.hid (fun w => Parts_any d 47 w (by omega) (by decide) (by decide))
                      have hspl := (splitB_len 47 d).1
                      have HA2 : Hid (AtN all [47] 2) := Lib.hid hta.rootAt
                      clear HLP
                      rcases hhd with ⟨hh1, hh2⟩ | ⟨hh1, hh2⟩
                      · have HG8 := Lib.hid (HLN.out hn5)
                        rw [if_pos hh1] at HG8
                        have hb47 : (byt d 0 == 47) = true := by rw [hh2]; rfl
                        clear HLN hh1
                        go_wp2_with fail
                        refine HLK.out.mono ?_
                        rintro e w5 ⟨rfl, hb5⟩
                        have HB5 := Lib.hid ((ext_trans HB.out hb5).alloc (ext_trans HB.out hb5).size (.cells #[.string ⟨q.toArray⟩, .int .i64 3, .string ⟨d.toArray⟩] 35))
                        have HL5 := Lib.hid ((HL.out.below hb5).below (ext_alloc w5 (.cells #[.string ⟨q.toArray⟩, .int .i64 3, .string ⟨d.toArray⟩] 35)))
                        clear hb5
                        go_wp2_with fail
                        refine (HPD.out _).mono ?_
                        rintro e w7 ⟨v7, rfl, hown7, hb7⟩
                        have HB7 := Lib.hid (HB5.out.trans (hb7.mono HB5.out.size))
                        have HL7 := Lib.hid (HL5.out.below hb7)
                        have HO7 := Lib.hid hown7
                        have hB7 := hb7.size
                        have HLM8 : Hid (∀ s ∈ splitB 47 d ++ [], s.length ≤ 900000) := Lib.hid (fun s hs => (List.mem_append.1 hs).elim (fun h => Nat.le_trans (splitB_mem 47 d s h) (by omega)) (HLM2.out s))
                        have hB1 := HB5.out.size
                        have hz1 : (((splitB 47 d).map strV).length + ([] : List Bts).length) * 16 ≤ 140737488355328 := by rw [List.length_map]; omega
                        have hz2 : ((splitB 47 d).map strV).length + ([] : List Bts).length ≤ 9223372036854775807 := by rw [List.length_map]; omega
                        have HRG : Hid (∀ (W : World) (B : Nat) (v : Value), Own W B 9 v ((splitB 47 d).map strV ++ (List.range ([] : List Bts).length).map (strAt [])) → Own W B 9 v ((splitB 47 d ++ []).map strV)) := Lib.hid (fun W B v h => by rw [List.map_append, ← strAt_range []]; exact h)
                        clear hown7 hb7
                        go_wp2_with (at_builtin; refine wpList_appS _ rfl _ _ 67 rfl _ 9 (.string .empty) 16 ok16 _ _ rfl HO7.out _ ([] : List Bts).length (strAt []) rfl HL7.out (fun _ _ => rfl) hz1 hz2 hB7 ?_)
                        intro v8 w8 hown8 hgr8
                        have ho8 := HRG.out w8 _ v8 (by first | exact hown8 | simpa using hown8)
                        have HST8 := Lib.hid ho8.isStr
                        obtain ⟨a8, c8, rfl, -⟩ := ho8.isStr
                        have HB8 : Hid (Below w1.heap.size w1 w8) := Lib.hid (HB7.out.grown hgr8 HB7.out.size (fun j hj => by have := (HO7.out.row j hj).1; omega))
                        clear hown8 hgr8
                        go_wp2_with fail
                        exact ⟨⟨_, a8, c8, [47], n + 1, 2, rfl, HST8, rfl, by go_num, rfl, by omega, by rw [List.length_append]; omega, HLM8, HA2, HG8, HB8⟩, by simp [intOf]; omega⟩
                      · have HG8 := Lib.hid (HLN.out hn5)
                        rw [if_neg hh1] at HG8
                        have hb47 : (byt d 0 == 47) = false := by rw [beq_eq_false_iff_ne]; exact hh2
                        clear HLN hh1
                        go_wp2_with fail
                        refine HLK.out.mono ?_
                        rintro e w5 ⟨rfl, hb5⟩
                        have HB5 := Lib.hid ((ext_trans HB.out hb5).alloc (ext_trans HB.out hb5).size (.cells #[.string ⟨q.toArray⟩, .int .i64 3, .string ⟨d.toArray⟩] 35))
                        have HL5 := Lib.hid ((HL.out.below hb5).below (ext_alloc w5 (.cells #[.string ⟨q.toArray⟩, .int .i64 3, .string ⟨d.toArray⟩] 35)))
                        clear hb5
                        go_wp2_with fail
                        refine (HPD.out _).mono ?_
                        rintro e w7 ⟨v7, rfl, hown7, hb7⟩
                        have HB7 := Lib.hid (HB5.out.trans (hb7.mono HB5.out.size))
                        have HL7 := Lib.hid (HL5.out.below hb7)
                        have HO7 := Lib.hid hown7
                        have hB7 := hb7.size
                        have HLM8 : Hid (∀ s ∈ splitB 47 d ++ [], s.length ≤ 900000) := Lib.hid (fun s hs => (List.mem_append.1 hs).elim (fun h => Nat.le_trans (splitB_mem 47 d s h) (by omega)) (HLM2.out s))
                        have hB1 := HB5.out.size
                        have hz1 : (((splitB 47 d).map strV).length + ([] : List Bts).length) * 16 ≤ 140737488355328 := by rw [List.length_map]; omega
                        have hz2 : ((splitB 47 d).map strV).length + ([] : List Bts).length ≤ 9223372036854775807 := by rw [List.length_map]; omega
                        have HRG : Hid (∀ (W : World) (B : Nat) (v : Value), Own W B 9 v ((splitB 47 d).map strV ++ (List.range ([] : List Bts).length).map (strAt [])) → Own W B 9 v ((splitB 47 d ++ []).map strV)) := Lib.hid (fun W B v h => by rw [List.map_append, ← strAt_range []]; exact h)
                        clear hown7 hb7
                        go_wp2_with (at_builtin; refine wpList_appS _ rfl _ _ 67 rfl _ 9 (.string .empty) 16 ok16 _ _ rfl HO7.out _ ([] : List Bts).length (strAt []) rfl HL7.out (fun _ _ => rfl) hz1 hz2 hB7 ?_)
                        intro v8 w8 hown8 hgr8
                        have ho8 := HRG.out w8 _ v8 (by first | exact hown8 | simpa using hown8)
                        have HST8 := Lib.hid ho8.isStr
                        obtain ⟨a8, c8, rfl, -⟩ := ho8.isStr
                        have HB8 : Hid (Below w1.heap.size w1 w8) := Lib.hid (HB7.out.grown hgr8 HB7.out.size (fun j hj => by have := (HO7.out.row j hj).1; omega))
                        clear hown8 hgr8
                        go_wp2_with fail
                        exact ⟨⟨_, a8, c8, _, n + 1, 2, rfl, HST8, rfl, by go_num, rfl, by omega, by rw [List.length_append]; omega, HLM8, HAT, HG8, HB8⟩, by simp [intOf]; omega⟩
                  · have hk3b : (kd != 3) = true := by simpa using hkd
                    obtain ⟨hg8, ha8⟩ := HSTEP.out hkd
                    have HG8 := Lib.hid hg8
                    have HA8 := Lib.hid ha8
                    clear HSTEP HLOOP HLINK HDL hg8 ha8
                    go_wp2_with fail
                    refine HLK.out.mono ?_
                    rintro e w5 ⟨rfl, hb5⟩
                    have HB5 := Lib.hid ((ext_trans HB.out hb5).alloc (ext_trans HB.out hb5).size (.cells #[.string ⟨q.toArray⟩, .int .i64 kd, .string ⟨d.toArray⟩] 35))
                    have HL5 := Lib.hid ((HL.out.below hb5).below (ext_alloc w5 (.cells #[.string ⟨q.toArray⟩, .int .i64 kd, .string ⟨d.toArray⟩] 35)))
                    clear hb5
                    go_wp2_with fail
                    go_quiet (fail)
                    go_wp2_with fail
                    exact ⟨⟨_, _, _, _, n, kd, rfl, HL5.out.drew _ |> Lib.hid, rfl, rfl, rfl, hn, by omega, HLM2, HA8, HG8, Lib.hid (below_dr HB5.out _)⟩, by simp [intOf]⟩
            · have hk3 : (k != 2) = true := by simpa using hk2
              have HF : Hid (resV R = .tuple #[.string ⟨#[]⟩, .int .i64 0, .int .i64 13]) := Lib.hid (by rw [← HGO.out, goL_kind _ _ _ _ _ _ (by rintro (e | e); exact n1 e; exact n2 e) hk2]; rfl)
              clear n1 n2 n3
              go_wp2_with fail
              go_ret3
              rw [HV.out, HF.out]
              exact ⟨rfl, HPO.out _ HB.out⟩
        · have hc9 : ¬ (cap : Int) - 1 = 0 := by omega
          have hc8 : ¬ cap - 1 = 0 := by omega
          have HLX : Hid (IsStr wr (.slice (some ⟨b, off + 1, none⟩) l.length (cap - 1)) l) := HS1
          clear HS0 HS
          have HL : Hid (IsStr wr (.slice (some ⟨b, off + 1, none⟩) l.length (cap - 1)) l) := HLX
          rcases okPart_cases A with ⟨hok, hs | hs | hs⟩ | ⟨hok, n1, n2, n3⟩
          · subst hs
            have HG4 : Hid (goL all (40 - n) l h k = R) := Lib.hid ((goL_skip all (40 - n) [] l h k (.inl rfl)).symm.trans HGO.out)
            go_wp2_with fail
            exact ⟨⟨l, _, _, h, n, k, rfl, HL, rfl, rfl, rfl, hn, by omega, HLM2, HAT, HG4, HB⟩, by simp [intOf]⟩
          · subst hs
            have HG4 : Hid (goL all (40 - n) l h k = R) := Lib.hid ((goL_skip all (40 - n) [46] l h k (.inr rfl)).symm.trans HGO.out)
            go_wp2_with fail
            exact ⟨⟨l, _, _, h, n, k, rfl, HL, rfl, rfl, rfl, hn, by omega, HLM2, HAT, HG4, HB⟩, by simp [intOf]⟩
          · subst hs
            by_cases hk2 : k = 2
            · subst hk2
              have HG4 := Lib.hid ((goL_up all (40 - n) l h).symm.trans HGO.out)
              have HA4 := Lib.hid (HAT.out.up hta)
              obtain ⟨-, hhl, -, rr, hhr⟩ := HAT.out.clean hta
              have HCT := Lib.hid (fun w => rCut_any rr w (by rw [← hhr]; omega))
              rw [← hhr] at HCT
              rw [cutF_eq] at HCT
              clear hhr
              go_wp2_with fail
              refine (HCT.out _).mono ?_
              rintro e w4 ⟨rfl, nn, rfl⟩
              go_wp2_with fail
              exact ⟨⟨l, _, _, _, n, 2, rfl, Lib.hid (HL.out.drew nn), rfl, rfl, rfl, hn, by omega, HLM2, HA4, HG4, Lib.hid (below_dr HB.out nn)⟩, by simp [intOf]⟩
            · have hk3 : (k != 2) = true := by simpa using hk2
              have HF : Hid (resV R = .tuple #[.string ⟨#[]⟩, .int .i64 0, .int .i64 13]) := Lib.hid (by rw [← HGO.out, goL_kind _ _ _ _ _ _ (by decide) hk2]; rfl)
              go_wp2_with fail
              go_ret3
              rw [HV.out, HF.out]
              exact ⟨rfl, HPO.out _ HB.out⟩
          · have b1 : (A == []) = false := by rw [beq_eq_false_iff_ne]; exact n1
            have b2 : (A == [46]) = false := by rw [beq_eq_false_iff_ne]; exact n2
            have b3 : (A == [46, 46]) = false := by rw [beq_eq_false_iff_ne]; exact n3
            have b4 : A.isEmpty = false := by cases A with | nil => exact absurd rfl n1 | cons _ _ => rfl
            by_cases hk2 : k = 2
            · subst hk2
              obtain ⟨-, hhl, -, -⟩ := HAT.out.clean hta
              obtain ⟨sv', HRX0, HRO0⟩ := (HPO.out _ HB.out).1
              have HRX := Lib.hid HRX0
              have HRO := Lib.hid HRO0
              have hm1 : h.length + ([47] : Bts).length ≤ 9223372036854775807 := by simp; omega
              have hm2 : (h ++ [47]).length + A.length ≤ 9223372036854775807 := by simp; omega
              have hm3 : ([47] : Bts).length + A.length ≤ 9223372036854775807 := by simp; omega
              clear HRX0 HRO0 n1 n2 n3
              by_cases hh : h = [47]
              · subst hh
                have hb0 : (([47] : Bts) == [47]) = true := rfl
                have HJ : joinL [47] A = 47 :: A := if_pos rfl
                have hnl : (47 :: A).length ≤ 1000000 := by rw [← HJ, joinL_len]; have := (joinL_nil_len [47]).2; omega
                have HLK := Lib.hid (rLook_any t sv' _ all (47 :: A) wr HRX.out HRO.out.isNds hta.rise hnl hal)
                cases hlk : lookN all (joinL [47] A) with
                | none =>
                  have HF : Hid (resV R = .tuple #[.string ⟨#[]⟩, .int .i64 0, .int .i64 13]) := Lib.hid (by rw [← HGO.out, goL_gone _ _ _ _ _ hok hlk]; rfl)
                  rw [HJ] at hlk
                  rw [hlk] at HLK
                  simp only [Option.getD_none, Option.isSome_none, ndV, nd0] at HLK
                  clear hlk HJ
                  go_wp2_with fail
                  refine HLK.out.mono ?_
                  rintro e w5 ⟨rfl, hb5⟩
                  have HB5 := Lib.hid (ext_trans HB.out hb5)
                  clear hb5
                  go_wp2_with fail
                  go_ret3
                  rw [HV.out, HF.out]
                  exact ⟨rfl, HPO.out _ (ext_trans HB5.out (ext_alloc _ _))⟩
                | some nd =>
                  obtain ⟨hnm, hnp⟩ := lookN_some hlk
                  have HSTEP : Hid (nd.k ≠ 3 → goL all (40 - n) l (joinL [47] A) nd.k = R ∧ AtN all (joinL [47] A) nd.k) := Lib.hid (fun hk => ⟨by rw [← HGO.out, goL_step all (40 - n) A l [47] nd hok hlk hk], ⟨nd, hlk, rfl, hk⟩⟩)
                  have HLOOP : Hid (nd.k = 3 → n = 40 → R = .loop) := Lib.hid (fun hk hn4 => by
                    subst hn4
                    rw [← HGO.out, show 40 - 40 = 0 from rfl, goL_loop all A l [47] nd hok hlk hk])
                  have HLINK : Hid (nd.k = 3 → n < 40 → goL all (40 - (n + 1)) (splitB 47 nd.d ++ l) (if nd.d.head? = some 47 then [47] else [47]) 2 = R) := Lib.hid (fun hk hn4 => by
                    have h4 := goL_link all (40 - (n + 1)) A l [47] nd hok hlk hk
                    rw [show 40 - (n + 1) + 1 = 40 - n by omega] at h4
                    rw [← h4]; exact HGO.out)
                  have HDL : Hid (nd.k = 3 → nd.d ≠ [] ∧ nd.d.length ≤ 1024) := Lib.hid (fun hk => hta.link hnm hk)
                  rw [HJ] at hlk HSTEP
                  rw [hlk] at HLK
                  simp only [Option.getD_some, Option.isSome_some, ndV] at HLK
                  obtain ⟨q, kd, d⟩ := nd
                  simp only at HSTEP HLOOP HLINK HDL HLK
                  clear hlk hnm hnp HJ
                  by_cases hkd : kd = 3
                  · subst hkd
                    obtain ⟨hd0, hdl⟩ := HDL.out rfl
                    have HLP := Lib.hid (HLOOP.out rfl)
                    have HLN := Lib.hid (HLINK.out rfl)
                    clear HSTEP HLOOP HLINK HDL
                    by_cases hn4 : n = 40
                    · subst hn4
                      have HF : Hid (resV R = .tuple #[.string ⟨#[]⟩, .int .i64 0, .int .i64 20]) := Lib.hid (by rw [HLP.out rfl]; rfl)
                      clear HLP HLN
                      go_wp2_with fail
                      refine HLK.out.mono ?_
                      rintro e w5 ⟨rfl, hb5⟩
                      have HB5 := Lib.hid (ext_trans HB.out hb5)
                      clear hb5
                      go_wp2_with fail
                      go_ret3
                      rw [HV.out, HF.out]
                      exact ⟨rfl, HPO.out _ (ext_trans HB5.out (ext_alloc _ _))⟩
                    · have hn5 : n < 40 := by omega
                      have hnI : ¬ (40 : Int) ≤ (n : Int) := by omega
                      have hnw : IntKind.i64.wrap ((n : Int) + 1) = (n : Int) + 1 := IntWalk.i64_in _ (by omega)
                      have hd1 : 0 < d.length := List.length_pos_iff.2 hd0
                      have hd2 : (0 : Int) < (d.length : Int) := by omega
                      have hhd : (d.head? = some 47 ∧ byt d 0 = 47) ∨ (d.head? ≠ some 47 ∧ byt d 0 ≠ 47) := by
                        cases d with
                        | nil => exact absurd rfl hd0
                        | cons c ds =>
                          by_cases hc : c = 47
                          · subst hc; exact .inl ⟨rfl, rfl⟩
                          · refine .inr ⟨fun e => hc (by simpa using e), fun e => hc (UInt8.toNat_inj.1 (by
                              have e2 : (c.toNat : Int) = 47 := e
                              have : c.toNat = 47 := by omega
                              exact this))⟩
                      have HPD := Lib.hid (fun w => Parts_any d 47 w (by omega) (by decide) (by decide))
                      have hspl := (splitB_len 47 d).1
                      have HA2 : Hid (AtN all [47] 2) := Lib.hid hta.rootAt
                      clear HLP
                      rcases hhd with ⟨hh1, hh2⟩ | ⟨hh1, hh2⟩
                      · have HG8 := Lib.hid (HLN.out hn5)
                        rw [if_pos hh1] at HG8
                        have hb47 : (byt d 0 == 47) = true := by rw [hh2]; rfl
                        clear HLN hh1
                        go_wp2_with fail
                        refine HLK.out.mono ?_
                        rintro e w5 ⟨rfl, hb5⟩
                        have HB5 := Lib.hid ((ext_trans HB.out hb5).alloc (ext_trans HB.out hb5).size (.cells #[.string ⟨q.toArray⟩, .int .i64 3, .string ⟨d.toArray⟩] 35))
                        have HL5 := Lib.hid ((HL.out.below hb5).below (ext_alloc w5 (.cells #[.string ⟨q.toArray⟩, .int .i64 3, .string ⟨d.toArray⟩] 35)))
                        clear hb5
                        go_wp2_with fail
                        refine (HPD.out _).mono ?_
                        rintro e w7 ⟨v7, rfl, hown7, hb7⟩
                        have HB7 := Lib.hid (HB5.out.trans (hb7.mono HB5.out.size))
                        have HL7 := Lib.hid (HL5.out.below hb7)
                        have HO7 := Lib.hid hown7
                        have hB7 := hb7.size
                        have HLM8 : Hid (∀ s ∈ splitB 47 d ++ l, s.length ≤ 900000) := Lib.hid (fun s hs => (List.mem_append.1 hs).elim (fun h => Nat.le_trans (splitB_mem 47 d s h) (by omega)) (HLM2.out s))
                        have hB1 := HB5.out.size
                        have hz1 : (((splitB 47 d).map strV).length + l.length) * 16 ≤ 140737488355328 := by rw [List.length_map]; omega
                        have hz2 : ((splitB 47 d).map strV).length + l.length ≤ 9223372036854775807 := by rw [List.length_map]; omega
                        have HRG : Hid (∀ (W : World) (B : Nat) (v : Value), Own W B 9 v ((splitB 47 d).map strV ++ (List.range l.length).map (strAt l)) → Own W B 9 v ((splitB 47 d ++ l).map strV)) := Lib.hid (fun W B v h => by rw [List.map_append, ← strAt_range l]; exact h)
                        clear hown7 hb7
                        go_wp2_with (at_builtin; refine wpList_appS _ rfl _ _ 67 rfl _ 9 (.string .empty) 16 ok16 _ _ rfl HO7.out _ l.length (strAt l) rfl HL7.out (fun _ _ => rfl) hz1 hz2 hB7 ?_)
                        intro v8 w8 hown8 hgr8
                        have ho8 := HRG.out w8 _ v8 (by first | exact hown8 | simpa using hown8)
                        have HST8 := Lib.hid ho8.isStr
                        obtain ⟨a8, c8, rfl, -⟩ := ho8.isStr
                        have HB8 : Hid (Below w1.heap.size w1 w8) := Lib.hid (HB7.out.grown hgr8 HB7.out.size (fun j hj => by have := (HO7.out.row j hj).1; omega))
                        clear hown8 hgr8
                        go_wp2_with fail
                        exact ⟨⟨_, a8, c8, [47], n + 1, 2, rfl, HST8, rfl, by go_num, rfl, by omega, by rw [List.length_append]; omega, HLM8, HA2, HG8, HB8⟩, by simp [intOf]; omega⟩
                      · have HG8 := Lib.hid (HLN.out hn5)
                        rw [if_neg hh1] at HG8
                        have hb47 : (byt d 0 == 47) = false := by rw [beq_eq_false_iff_ne]; exact hh2
                        clear HLN hh1
                        go_wp2_with fail
                        refine HLK.out.mono ?_
                        rintro e w5 ⟨rfl, hb5⟩
                        have HB5 := Lib.hid ((ext_trans HB.out hb5).alloc (ext_trans HB.out hb5).size (.cells #[.string ⟨q.toArray⟩, .int .i64 3, .string ⟨d.toArray⟩] 35))
                        have HL5 := Lib.hid ((HL.out.below hb5).below (ext_alloc w5 (.cells #[.string ⟨q.toArray⟩, .int .i64 3, .string ⟨d.toArray⟩] 35)))
                        clear hb5
                        go_wp2_with fail
                        refine (HPD.out _).mono ?_
                        rintro e w7 ⟨v7, rfl, hown7, hb7⟩
                        have HB7 := Lib.hid (HB5.out.trans (hb7.mono HB5.out.size))
                        have HL7 := Lib.hid (HL5.out.below hb7)
                        have HO7 := Lib.hid hown7
                        have hB7 := hb7.size
                        have HLM8 : Hid (∀ s ∈ splitB 47 d ++ l, s.length ≤ 900000) := Lib.hid (fun s hs => (List.mem_append.1 hs).elim (fun h => Nat.le_trans (splitB_mem 47 d s h) (by omega)) (HLM2.out s))
                        have hB1 := HB5.out.size
                        have hz1 : (((splitB 47 d).map strV).length + l.length) * 16 ≤ 140737488355328 := by rw [List.length_map]; omega
                        have hz2 : ((splitB 47 d).map strV).length + l.length ≤ 9223372036854775807 := by rw [List.length_map]; omega
                        have HRG : Hid (∀ (W : World) (B : Nat) (v : Value), Own W B 9 v ((splitB 47 d).map strV ++ (List.range l.length).map (strAt l)) → Own W B 9 v ((splitB 47 d ++ l).map strV)) := Lib.hid (fun W B v h => by rw [List.map_append, ← strAt_range l]; exact h)
                        clear hown7 hb7
                        go_wp2_with (at_builtin; refine wpList_appS _ rfl _ _ 67 rfl _ 9 (.string .empty) 16 ok16 _ _ rfl HO7.out _ l.length (strAt l) rfl HL7.out (fun _ _ => rfl) hz1 hz2 hB7 ?_)
                        intro v8 w8 hown8 hgr8
                        have ho8 := HRG.out w8 _ v8 (by first | exact hown8 | simpa using hown8)
                        have HST8 := Lib.hid ho8.isStr
                        obtain ⟨a8, c8, rfl, -⟩ := ho8.isStr
                        have HB8 : Hid (Below w1.heap.size w1 w8) := Lib.hid (HB7.out.grown hgr8 HB7.out.size (fun j hj => by have := (HO7.out.row j hj).1; omega))
                        clear hown8 hgr8
                        go_wp2_with fail
                        exact ⟨⟨_, a8, c8, _, n + 1, 2, rfl, HST8, rfl, by go_num, rfl, by omega, by rw [List.length_append]; omega, HLM8, HAT, HG8, HB8⟩, by simp [intOf]; omega⟩
                  · have hk3b : (kd != 3) = true := by simpa using hkd
                    obtain ⟨hg8, ha8⟩ := HSTEP.out hkd
                    have HG8 := Lib.hid hg8
                    have HA8 := Lib.hid ha8
                    clear HSTEP HLOOP HLINK HDL hg8 ha8
                    go_wp2_with fail
                    refine HLK.out.mono ?_
                    rintro e w5 ⟨rfl, hb5⟩
                    have HB5 := Lib.hid ((ext_trans HB.out hb5).alloc (ext_trans HB.out hb5).size (.cells #[.string ⟨q.toArray⟩, .int .i64 kd, .string ⟨d.toArray⟩] 35))
                    have HL5 := Lib.hid ((HL.out.below hb5).below (ext_alloc w5 (.cells #[.string ⟨q.toArray⟩, .int .i64 kd, .string ⟨d.toArray⟩] 35)))
                    clear hb5
                    go_wp2_with fail
                    go_quiet (fail)
                    go_wp2_with fail
                    exact ⟨⟨_, _, _, _, n, kd, rfl, HL5.out.drew _ |> Lib.hid, rfl, rfl, rfl, hn, by omega, HLM2, HA8, HG8, Lib.hid (below_dr HB5.out _)⟩, by simp [intOf]⟩
              · have hb0 : (h == [47]) = false := by rw [beq_eq_false_iff_ne]; exact hh
                have HJ : joinL h A = h ++ 47 :: A := if_neg hh
                have hnl : (h ++ 47 :: A).length ≤ 1000000 := by rw [← HJ, joinL_len]; have := (joinL_nil_len h).2; omega
                have HLK := Lib.hid (rLook_any t sv' _ all (h ++ 47 :: A) wr HRX.out HRO.out.isNds hta.rise hnl hal)
                cases hlk : lookN all (joinL h A) with
                | none =>
                  have HF : Hid (resV R = .tuple #[.string ⟨#[]⟩, .int .i64 0, .int .i64 13]) := Lib.hid (by rw [← HGO.out, goL_gone _ _ _ _ _ hok hlk]; rfl)
                  rw [HJ] at hlk
                  rw [hlk] at HLK
                  simp only [Option.getD_none, Option.isSome_none, ndV, nd0] at HLK
                  clear hlk HJ
                  go_wp2_with fail
                  refine HLK.out.mono ?_
                  rintro e w5 ⟨rfl, hb5⟩
                  have HB5 := Lib.hid (ext_trans HB.out hb5)
                  clear hb5
                  go_wp2_with fail
                  go_ret3
                  rw [HV.out, HF.out]
                  exact ⟨rfl, HPO.out _ (ext_trans HB5.out (ext_alloc _ _))⟩
                | some nd =>
                  obtain ⟨hnm, hnp⟩ := lookN_some hlk
                  have HSTEP : Hid (nd.k ≠ 3 → goL all (40 - n) l (joinL h A) nd.k = R ∧ AtN all (joinL h A) nd.k) := Lib.hid (fun hk => ⟨by rw [← HGO.out, goL_step all (40 - n) A l h nd hok hlk hk], ⟨nd, hlk, rfl, hk⟩⟩)
                  have HLOOP : Hid (nd.k = 3 → n = 40 → R = .loop) := Lib.hid (fun hk hn4 => by
                    subst hn4
                    rw [← HGO.out, show 40 - 40 = 0 from rfl, goL_loop all A l h nd hok hlk hk])
                  have HLINK : Hid (nd.k = 3 → n < 40 → goL all (40 - (n + 1)) (splitB 47 nd.d ++ l) (if nd.d.head? = some 47 then [47] else h) 2 = R) := Lib.hid (fun hk hn4 => by
                    have h4 := goL_link all (40 - (n + 1)) A l h nd hok hlk hk
                    rw [show 40 - (n + 1) + 1 = 40 - n by omega] at h4
                    rw [← h4]; exact HGO.out)
                  have HDL : Hid (nd.k = 3 → nd.d ≠ [] ∧ nd.d.length ≤ 1024) := Lib.hid (fun hk => hta.link hnm hk)
                  rw [HJ] at hlk HSTEP
                  rw [hlk] at HLK
                  simp only [Option.getD_some, Option.isSome_some, ndV] at HLK
                  obtain ⟨q, kd, d⟩ := nd
                  simp only at HSTEP HLOOP HLINK HDL HLK
                  clear hlk hnm hnp HJ
                  by_cases hkd : kd = 3
                  · subst hkd
                    obtain ⟨hd0, hdl⟩ := HDL.out rfl
                    have HLP := Lib.hid (HLOOP.out rfl)
                    have HLN := Lib.hid (HLINK.out rfl)
                    clear HSTEP HLOOP HLINK HDL
                    by_cases hn4 : n = 40
                    · subst hn4
                      have HF : Hid (resV R = .tuple #[.string ⟨#[]⟩, .int .i64 0, .int .i64 20]) := Lib.hid (by rw [HLP.out rfl]; rfl)
                      clear HLP HLN
                      go_wp2_with fail
                      refine HLK.out.mono ?_
                      rintro e w5 ⟨rfl, hb5⟩
                      have HB5 := Lib.hid (ext_trans HB.out hb5)
                      clear hb5
                      go_wp2_with fail
                      go_ret3
                      rw [HV.out, HF.out]
                      exact ⟨rfl, HPO.out _ (ext_trans HB5.out (ext_alloc _ _))⟩
                    · have hn5 : n < 40 := by omega
                      have hnI : ¬ (40 : Int) ≤ (n : Int) := by omega
                      have hnw : IntKind.i64.wrap ((n : Int) + 1) = (n : Int) + 1 := IntWalk.i64_in _ (by omega)
                      have hd1 : 0 < d.length := List.length_pos_iff.2 hd0
                      have hd2 : (0 : Int) < (d.length : Int) := by omega
                      have hhd : (d.head? = some 47 ∧ byt d 0 = 47) ∨ (d.head? ≠ some 47 ∧ byt d 0 ≠ 47) := by
                        cases d with
                        | nil => exact absurd rfl hd0
                        | cons c ds =>
                          by_cases hc : c = 47
                          · subst hc; exact .inl ⟨rfl, rfl⟩
                          · refine .inr ⟨fun e => hc (by simpa using e), fun e => hc (UInt8.toNat_inj.1 (by
                              have e2 : (c.toNat : Int) = 47 := e
                              have : c.toNat = 47 := by omega
                              exact this))⟩
                      have HPD := Lib.hid (fun w => Parts_any d 47 w (by omega) (by decide) (by decide))
                      have hspl := (splitB_len 47 d).1
                      have HA2 : Hid (AtN all [47] 2) := Lib.hid hta.rootAt
                      clear HLP
                      rcases hhd with ⟨hh1, hh2⟩ | ⟨hh1, hh2⟩
                      · have HG8 := Lib.hid (HLN.out hn5)
                        rw [if_pos hh1] at HG8
                        have hb47 : (byt d 0 == 47) = true := by rw [hh2]; rfl
                        clear HLN hh1
                        go_wp2_with fail
                        refine HLK.out.mono ?_
                        rintro e w5 ⟨rfl, hb5⟩
                        have HB5 := Lib.hid ((ext_trans HB.out hb5).alloc (ext_trans HB.out hb5).size (.cells #[.string ⟨q.toArray⟩, .int .i64 3, .string ⟨d.toArray⟩] 35))
                        have HL5 := Lib.hid ((HL.out.below hb5).below (ext_alloc w5 (.cells #[.string ⟨q.toArray⟩, .int .i64 3, .string ⟨d.toArray⟩] 35)))
                        clear hb5
                        go_wp2_with fail
                        refine (HPD.out _).mono ?_
                        rintro e w7 ⟨v7, rfl, hown7, hb7⟩
                        have HB7 := Lib.hid (HB5.out.trans (hb7.mono HB5.out.size))
                        have HL7 := Lib.hid (HL5.out.below hb7)
                        have HO7 := Lib.hid hown7
                        have hB7 := hb7.size
                        have HLM8 : Hid (∀ s ∈ splitB 47 d ++ l, s.length ≤ 900000) := Lib.hid (fun s hs => (List.mem_append.1 hs).elim (fun h => Nat.le_trans (splitB_mem 47 d s h) (by omega)) (HLM2.out s))
                        have hB1 := HB5.out.size
                        have hz1 : (((splitB 47 d).map strV).length + l.length) * 16 ≤ 140737488355328 := by rw [List.length_map]; omega
                        have hz2 : ((splitB 47 d).map strV).length + l.length ≤ 9223372036854775807 := by rw [List.length_map]; omega
                        have HRG : Hid (∀ (W : World) (B : Nat) (v : Value), Own W B 9 v ((splitB 47 d).map strV ++ (List.range l.length).map (strAt l)) → Own W B 9 v ((splitB 47 d ++ l).map strV)) := Lib.hid (fun W B v h => by rw [List.map_append, ← strAt_range l]; exact h)
                        clear hown7 hb7
                        go_wp2_with (at_builtin; refine wpList_appS _ rfl _ _ 67 rfl _ 9 (.string .empty) 16 ok16 _ _ rfl HO7.out _ l.length (strAt l) rfl HL7.out (fun _ _ => rfl) hz1 hz2 hB7 ?_)
                        intro v8 w8 hown8 hgr8
                        have ho8 := HRG.out w8 _ v8 (by first | exact hown8 | simpa using hown8)
                        have HST8 := Lib.hid ho8.isStr
                        obtain ⟨a8, c8, rfl, -⟩ := ho8.isStr
                        have HB8 : Hid (Below w1.heap.size w1 w8) := Lib.hid (HB7.out.grown hgr8 HB7.out.size (fun j hj => by have := (HO7.out.row j hj).1; omega))
                        clear hown8 hgr8
                        go_wp2_with fail
                        exact ⟨⟨_, a8, c8, [47], n + 1, 2, rfl, HST8, rfl, by go_num, rfl, by omega, by rw [List.length_append]; omega, HLM8, HA2, HG8, HB8⟩, by simp [intOf]; omega⟩
                      · have HG8 := Lib.hid (HLN.out hn5)
                        rw [if_neg hh1] at HG8
                        have hb47 : (byt d 0 == 47) = false := by rw [beq_eq_false_iff_ne]; exact hh2
                        clear HLN hh1
                        go_wp2_with fail
                        refine HLK.out.mono ?_
                        rintro e w5 ⟨rfl, hb5⟩
                        have HB5 := Lib.hid ((ext_trans HB.out hb5).alloc (ext_trans HB.out hb5).size (.cells #[.string ⟨q.toArray⟩, .int .i64 3, .string ⟨d.toArray⟩] 35))
                        have HL5 := Lib.hid ((HL.out.below hb5).below (ext_alloc w5 (.cells #[.string ⟨q.toArray⟩, .int .i64 3, .string ⟨d.toArray⟩] 35)))
                        clear hb5
                        go_wp2_with fail
                        refine (HPD.out _).mono ?_
                        rintro e w7 ⟨v7, rfl, hown7, hb7⟩
                        have HB7 := Lib.hid (HB5.out.trans (hb7.mono HB5.out.size))
                        have HL7 := Lib.hid (HL5.out.below hb7)
                        have HO7 := Lib.hid hown7
                        have hB7 := hb7.size
                        have HLM8 : Hid (∀ s ∈ splitB 47 d ++ l, s.length ≤ 900000) := Lib.hid (fun s hs => (List.mem_append.1 hs).elim (fun h => Nat.le_trans (splitB_mem 47 d s h) (by omega)) (HLM2.out s))
                        have hB1 := HB5.out.size
                        have hz1 : (((splitB 47 d).map strV).length + l.length) * 16 ≤ 140737488355328 := by rw [List.length_map]; omega
                        have hz2 : ((splitB 47 d).map strV).length + l.length ≤ 9223372036854775807 := by rw [List.length_map]; omega
                        have HRG : Hid (∀ (W : World) (B : Nat) (v : Value), Own W B 9 v ((splitB 47 d).map strV ++ (List.range l.length).map (strAt l)) → Own W B 9 v ((splitB 47 d ++ l).map strV)) := Lib.hid (fun W B v h => by rw [List.map_append, ← strAt_range l]; exact h)
                        clear hown7 hb7
                        go_wp2_with (at_builtin; refine wpList_appS _ rfl _ _ 67 rfl _ 9 (.string .empty) 16 ok16 _ _ rfl HO7.out _ l.length (strAt l) rfl HL7.out (fun _ _ => rfl) hz1 hz2 hB7 ?_)
                        intro v8 w8 hown8 hgr8
                        have ho8 := HRG.out w8 _ v8 (by first | exact hown8 | simpa using hown8)
                        have HST8 := Lib.hid ho8.isStr
                        obtain ⟨a8, c8, rfl, -⟩ := ho8.isStr
                        have HB8 : Hid (Below w1.heap.size w1 w8) := Lib.hid (HB7.out.grown hgr8 HB7.out.size (fun j hj => by have := (HO7.out.row j hj).1; omega))
                        clear hown8 hgr8
                        go_wp2_with fail
                        exact ⟨⟨_, a8, c8, _, n + 1, 2, rfl, HST8, rfl, by go_num, rfl, by omega, by rw [List.length_append]; omega, HLM8, HAT, HG8, HB8⟩, by simp [intOf]; omega⟩
                  · have hk3b : (kd != 3) = true := by simpa using hkd
                    obtain ⟨hg8, ha8⟩ := HSTEP.out hkd
                    have HG8 := Lib.hid hg8
                    have HA8 := Lib.hid ha8
                    clear HSTEP HLOOP HLINK HDL hg8 ha8
                    go_wp2_with fail
                    refine HLK.out.mono ?_
                    rintro e w5 ⟨rfl, hb5⟩
                    have HB5 := Lib.hid ((ext_trans HB.out hb5).alloc (ext_trans HB.out hb5).size (.cells #[.string ⟨q.toArray⟩, .int .i64 kd, .string ⟨d.toArray⟩] 35))
                    have HL5 := Lib.hid ((HL.out.below hb5).below (ext_alloc w5 (.cells #[.string ⟨q.toArray⟩, .int .i64 kd, .string ⟨d.toArray⟩] 35)))
                    clear hb5
                    go_wp2_with fail
                    go_quiet (fail)
                    go_wp2_with fail
                    exact ⟨⟨_, _, _, _, n, kd, rfl, HL5.out.drew _ |> Lib.hid, rfl, rfl, rfl, hn, by omega, HLM2, HA8, HG8, Lib.hid (below_dr HB5.out _)⟩, by simp [intOf]⟩
            · have hk3 : (k != 2) = true := by simpa using hk2
              have HF : Hid (resV R = .tuple #[.string ⟨#[]⟩, .int .i64 0, .int .i64 13]) := Lib.hid (by rw [← HGO.out, goL_kind _ _ _ _ _ _ (by rintro (e | e); exact n1 e; exact n2 e) hk2]; rfl)
              clear n1 n2 n3
              go_wp2_with fail
              go_ret3
              rw [HV.out, HF.out]
              exact ⟨rfl, HPO.out _ HB.out⟩
  · have HV : Hid (realV all p = .tuple #[.string ⟨#[]⟩, .int .i64 0, .int .i64 2]) := Lib.hid (by unfold realV; rw [if_neg h47])
    have hb : p = [] ∨ ∃ b r, p = b :: r ∧ b ≠ 47 := by
      cases p with
      | nil => exact .inl rfl
      | cons b r => exact .inr ⟨b, r, rfl, fun e => h47 (by rw [e]; rfl)⟩
    clear h47
    rcases hb with rfl | ⟨b, r, hbr, hb⟩
    · go_enter Tryd.func12, Tryd.ntmps12
      go_wp2_with fail
      go_ret3
      rw [HV.out]
      exact ⟨rfl, HPO.out _ (by rw [← hw1]; exact Below.refl _ _)⟩
    · have e3 : (byt p 0 != 47) = true := by
        rw [hbr]
        simp only [bne_iff_ne, ne_eq]
        exact fun e => hb (UInt8.toNat_inj.1 (by have e2 : (b.toNat : Int) = 47 := e
                                                 have : b.toNat = 47 := by omega
                                                 exact this))
      have e3b : ¬ byt p 0 = 47 := by simpa using e3
      have e1 : (p == []) = false := by rw [hbr]; rfl
      have e2 : p.isEmpty = false := by rw [hbr]; rfl
      have e4 : (0 : Int) < (p.length : Int) := by rw [hbr, List.length_cons]; omega
      have e6 : 0 < p.length := by omega
      clear hbr hb
      go_enter Tryd.func12, Tryd.ntmps12
      go_wp2_with fail
      go_ret3
      rw [HV.out]
      exact ⟨rfl, HPO.out _ (by rw [← hw1]; exact Below.refl _ _)⟩
end Go.Proofs.YtedfgikikjggaaaDoor
