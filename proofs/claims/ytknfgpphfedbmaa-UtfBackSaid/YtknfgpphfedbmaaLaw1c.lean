/- The walk of UtfBack. -/
import Derived.Test.YtknfgpphfedbmaaLaw1
import Derived.Deep.RegionHeld3
import Derived.Deep.DeepCutAuto
set_option linter.unusedVariables false
set_option linter.unusedSimpArgs false
namespace Go.Proofs.Ytknfgpphfedbmaa
open Go.RowKit

def mixL (l : List Int) (k : Nat) : List Int := (l.take k).map fixR ++ l.drop k
theorem mixL_len (l : List Int) (k : Nat) (h : k ≤ l.length) : (mixL l k).length = l.length := by unfold mixL; simp; omega
theorem mixL_get (l : List Int) (k : Nat) (h : k < l.length) : (mixL l k)[k]? = some (l.getD k 0) := by
  unfold mixL
  rw [List.getElem?_append_right (by simp; omega)]
  simp [List.getD, Nat.min_eq_left (Nat.le_of_lt h), h]
theorem mixL_succ (l : List Int) (k : Nat) (h : k < l.length) : mixL l (k + 1) = (mixL l k).set k (fixR (l.getD k 0)) := by
  unfold mixL
  rw [List.take_succ_eq_append_getElem h, List.map_append, List.set_append_right _ _ (by simp; omega)]
  have e : k - ((l.take k).map fixR).length = 0 := by simp; omega
  have hd : l.drop k = l[k] :: l.drop (k + 1) := List.drop_eq_getElem_cons h
  rw [e]
  simp [List.getD, h]
  rw [hd, List.set_cons_zero]
theorem set_same {α : Type} (l : List α) (k : Nat) (x : α) (h : l[k]? = some x) : l.set k x = l := by
  apply List.ext_getElem?
  intro i
  by_cases hi : k = i
  · subst hi
    rw [List.getElem?_set_self (List.getElem?_eq_some_iff.1 h).1, h]
  · rw [List.getElem?_set_ne hi]
theorem Own.shape {w : World} {B : Nat} {e : TypeId} {v : Value} {xs : List Value} (h : Own w B e v xs) (hn : 0 < xs.length) : ∃ g cap, v = .slice (some ⟨g, 0, none⟩) xs.length cap ∧ B ≤ g ∧ xs.length ≤ cap ∧ cap ≤ maxLen := by
  rcases h.2 with ⟨_, h0⟩ | ⟨g, cap, cur, hv, hg, hb, hnc, hcm, _⟩
  · omega
  · exact ⟨g, cap, hv, hg, hnc, hcm⟩

set_option maxHeartbeats 2000000 in
theorem UtfBack_walk (a0 : Option Addr) (len0 cap0 : Nat) (z0 : List Int) (w : World) (w0 : IsRow .i32 w a0 len0 cap0 z0) :
    Calls Try.prog 4 #[.slice a0 len0 cap0] w fun e w' => e = .returned (.bool true) ∧ Below w.heap.size w w' := by
  obtain ⟨l, rfl, h8, hr⟩ := isRow32 w0
  have H8 := Lib.hid h8
  have HR := Lib.hid hr
  clear w0 h8 hr
  by_cases hlen : 200 < l.length
  · go_enter Try.func4, Try.ntmps4
    go_wp2_with fail
    refine (awake_any _).mono ?_
    rintro e w1 ⟨rfl, hb⟩
    go_wp2
    go_ret
    exact ⟨rfl, hb⟩
  have hm : l.length ≤ 1000000 := by omega
  have hbk := decL_encL l
  have hel := encL_len l
  obtain ⟨hbk1, hbk2⟩ := hbk
  obtain ⟨hel1, hel2⟩ := hel
  have HBK1 := Lib.hid hbk1
  have HBK2 := Lib.hid hbk2
  clear hbk1 hbk2
  go_enter Try.func4, Try.ntmps4
  go_wp2_with fail
  refine (encode_any _ l _ H8.out hm HR.out).mono ?_
  rintro e w2 ⟨v2, rfl, hown2, hb2⟩
  generalize hE : encL l = E at *
  have HE := Lib.hid hE
  clear hE
  have HO2 := Lib.hid hown2
  have HB2 := Lib.hid hb2
  have HCV : Hid (∀ w', ExtC w2 w' → (convert 22 9 v2).run Try.prog w' = .ok (.string ⟨E.toArray⟩) w') := Lib.hid (fun w' h => run_toStr (P := Try.prog) w' 22 9 5 Try.underlying22 Try.underlying5 Try.underlying9 v2 E (hown2.is8.below h))
  have HI2 := Lib.hid hown2.is8
  have HI0 := Lib.hid (H8.out.below hb2)
  clear hown2 hb2
  have hm2 : E.length ≤ 1000000 := by omega
  go_wp2_with fail
  have hcv1 := HCV.out w2.drew (ext_drew w2 1)
  go_region_with (first
      | (go_at_call 18; refine (rencode_any _ l _ (HI0.out.below (ext_drew w2 1)) hm HR.out).mono ?_; rintro e w3 ⟨v3, rfl, hown3, hb3⟩; rw [HE.out] at hown3; have hc3 := run_toStr (P := Try.prog) w3 22 9 5 Try.underlying22 Try.underlying5 Try.underlying9 v3 E hown3.is8; have hcv3 := HCV.out w3 (ext_trans (ext_drew w2 1) hb3); have HB3 := Lib.hid hb3; clear hown3 hb3)
      | (go_at_call 12; refine (valid_any _ E _ (HI2.out.below (ext_trans (ext_drew w2 1) (Hid.out (by assumption)))) hm2).mono ?_; rintro e w4 ⟨rfl, k4, rfl⟩; rw [HBK2.out]))
  all_goals
    have HB3' := Lib.hid (ext_trans (ext_drew w2 1) (Hid.out (by assumption)))
    clear hcv1 hc3 hcv3
    go_wp2_with (at_builtin; refine wpList_appS _ rfl _ _ 28 rfl w3.heap.size 21 (.int .i32 0) 4 ok32 _ _ rfl (Own.nil _ _ _) _ _ _ rfl ((HI0.out.below HB3'.out).drew _) ?c1 ?c2 ?c3 ?c4 ?_)
    case c1 => intro i hi; rfl
    case c2 => simp; omega
    case c3 => simp; omega
    case c4 => simp
    intro v4 w4 hown4 hgr4
    rw [i32At_range] at hown4
    try rw [List.nil_append] at hown4
    have hb4 : Below w3.heap.size w3 w4 := (ext_drew w3 _).grown hgr4 (by simp) (fun k hk => by simp [Value.ownBlock] at hk)
    have HB4 := Lib.hid hb4
    have hz4 := hb4.size
    obtain ⟨av, cv, hv4, -⟩ := hown4.is32
    have HV4 := Lib.hid hv4
    have HO4 := Lib.hid hown4
    clear hb4 hown4 hgr4
    subst hv4
    go_wp2
    go_loopw [5] (fun ti wr => ∃ k : Nat, k ≤ l.length ∧ ti = .int .i64 k ∧ Own wr w3.heap.size 21 (.slice av l.length cv) ((mixL l k).map (Value.int .i32)) ∧ Below w3.heap.size w3 wr) (fun ti _ => l.length - (intOf ti).toNat)
    case atStart => exact ⟨0, by omega, rfl, by simpa [mixL] using HO4.out, HB4.out⟩
    case round =>
      obtain ⟨k, hk, rfl, hown, hbel⟩ := hrel
      by_cases hlt : k < l.length
      · have hlm := mixL_len l k hk
        obtain ⟨g, cap, hve, hg, hc1, hc2⟩ := hown.shape (by simp; omega)
        simp only [List.length_map, hlm, Value.slice.injEq] at hve
        obtain ⟨rfl, -, rfl⟩ := hve
        unfold maxLen at hc2
        have ho2 : wr.ownsRow w3.heap.size 21 1 (.slice (some ⟨g, 0, none⟩) l.length cv) l.length ((mixL l k).map (Value.int .i32)) := by
          have := hown; unfold Own at this; simpa [hlm] using this
        have hcell : wr.cell? ⟨g, k, none⟩ = some (.int .i32 (l.getD k 0)) := by
          rw [ho2.cellAt k (by omega), List.getElem?_map, mixL_get l k hlt]; rfl
        have hfro : wr.frozen? ⟨g, k, none⟩ = false := ho2.frozenAt k
        have hst := ho2.stored k (.int .i32 65533)
        have HST : Hid (Own (wr.setCell ⟨g, k, none⟩ (.int .i32 65533)) w3.heap.size 21 (.slice (some ⟨g, 0, none⟩) l.length cv) (((mixL l k).set k 65533).map (Value.int .i32))) := Lib.hid (by
          unfold Own; rw [List.length_map, List.length_set, hlm, List.map_set]; exact hst.1)
        have HB : Hid (Below w3.heap.size w3 (wr.setCell ⟨g, k, none⟩ (.int .i32 65533))) := Lib.hid (hbel.setCell (by show w3.heap.size ≤ g; exact hg) _)
        have HM := Lib.hid (mixL_succ l k hlt)
        have HG := Lib.hid (mixL_get l k hlt)
        have HOW := Lib.hid hown
        have HBE := Lib.hid hbel
        have HFX : Hid (fixR (l.getD k 0) = if l.getD k 0 < 0 ∨ 1114111 < l.getD k 0 ∨ (55296 ≤ l.getD k 0 ∧ l.getD k 0 ≤ 57343) then 65533 else l.getD k 0) := Lib.hid rfl
        obtain ⟨hr1, hr2⟩ := HR.out k hlt
        clear hown hbel ho2 hst
        generalize fixR (l.getD k 0) = R at *
        generalize l.getD k 0 = r at *
        by_cases c1 : r < 0
        · have hRr : R = 65533 := by have := HFX.out; rw [this, if_pos (by omega)]
          subst hRr
          go_wp2
          go_roundw
          case rel => exact ⟨k + 1, by omega, by go_num, by rw [HM.out]; exact HST.out, HB.out⟩
          case measure => simp [intOf]; omega
        by_cases c2 : 1114111 < r
        · have hRr : R = 65533 := by have := HFX.out; rw [this, if_pos (by omega)]
          subst hRr
          go_wp2
          go_roundw
          case rel => exact ⟨k + 1, by omega, by go_num, by rw [HM.out]; exact HST.out, HB.out⟩
          case measure => simp [intOf]; omega
        by_cases c3 : 55296 ≤ r
        · by_cases c4 : r ≤ 57343
          · have hRr : R = 65533 := by have := HFX.out; rw [this, if_pos (by omega)]
            subst hRr
            go_wp2
            go_roundw
            case rel => exact ⟨k + 1, by omega, by go_num, by rw [HM.out]; exact HST.out, HB.out⟩
            case measure => simp [intOf]; omega
          · have hRr : R = r := by have := HFX.out; rw [this, if_neg (by omega)]
            subst hRr
            go_wp2
            go_roundw
            case rel => exact ⟨k + 1, by omega, by go_num, by rw [HM.out, set_same _ _ _ HG.out]; exact HOW.out, HBE.out⟩
            case measure => simp [intOf]; omega
        · have hRr : R = r := by have := HFX.out; rw [this, if_neg (by omega)]
          subst hRr
          go_wp2
          go_roundw
          case rel => exact ⟨k + 1, by omega, by go_num, by rw [HM.out, set_same _ _ _ HG.out]; exact HOW.out, HBE.out⟩
          case measure => simp [intOf]; omega
      · obtain rfl : k = l.length := by omega
        have hmx : mixL l l.length = l.map fixR := by unfold mixL; simp
        have HO5 : Hid (Own wr w3.heap.size 21 (.slice av l.length cv) ((l.map fixR).map (Value.int .i32))) := Lib.hid (by rw [← hmx]; exact hown)
        have HB5 := Lib.hid hbel
        clear hown hbel hmx
        go_wp2_with fail
        refine (decode_any _ E _ (HI2.out.below (ext_trans HB3'.out HB5.out)) hm2).mono ?_
        rintro e w6 ⟨v6, rfl, hown6, hb6⟩
        rw [HBK1.out] at hown6
        have HO6 := Lib.hid hown6
        have HB6 := Lib.hid hb6
        clear hown6 hb6
        go_wp2_with fail
        refine (runes_eq _ _ (l.map fixR) _ HO6.out.is32 (by have := HO5.out.is32.below HB6.out; simpa using this) (by simp; omega)).mono ?_
        rintro e w7 ⟨rfl, k7, rfl⟩
        go_wp2_with fail
        refine (awake_any _).mono ?_
        rintro e w8 ⟨rfl, hb⟩
        go_wp2
        go_ret
        exact ⟨rfl, ext_trans HB2.out (ext_trans HB3'.out (ext_trans (ext_trans HB5.out HB6.out) (ext_trans (ext_drew _ _) hb)))⟩
end Go.Proofs.Ytknfgpphfedbmaa
