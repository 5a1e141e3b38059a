/- Contracts of jtok's scanner: kept. -/
import Derived.Test.YtkdmmmheciffgaaTokP
set_option linter.unusedVariables false
set_option linter.unusedSimpArgs false
namespace Go.Proofs.Ytkdmmmheciffgaa
open Go.RowKit

theorem byt_sub {b : List UInt8} {f t i : Nat} (h1 : f ≤ t) (h2 : t ≤ b.length) (hi : i < t - f) : byt (sub8 b f t) i = byt b (f + i) := by
  unfold sub8 byt
  simp [List.getD, List.getElem?_drop, List.getElem?_take, show f + i < t by omega]
/-- v[f:t], wherever it lies. -/
theorem Is8.subAt {w : World} {bb off cap : Nat} {b : List UInt8} (h : Cells w bb off b.length (u8At b)) (f t : Nat) (h1 : f ≤ t) (h2 : t ≤ b.length) (hc : b.length ≤ cap) (hm : cap ≤ maxLen) :
    Is8 w (.slice (some ⟨bb, off + f, none⟩) (t - f) (cap - f)) (sub8 b f t) := by
  have hl := sub8_len h1 h2
  refine ⟨_, _, by rw [hl], by rw [hl]; omega, by omega, (fun h => by cases h), fun _ => ⟨bb, off + f, rfl, ?_⟩⟩
  intro i hi
  rw [hl] at hi
  have := h (f + i) (by omega)
  rw [show off + f + i = off + (f + i) by omega, this]
  simp [u8At, byt_sub h1 h2 hi]
theorem Is8.sub0 {w : World} {a : Option Addr} {cap : Nat} {b : List UInt8} (h : Is8 w (.slice a b.length cap) b) (f t : Nat) (h1 : f ≤ t) (h2 : t ≤ b.length) (hc : cap - f = 0) : Is8 w (.slice a (t - f) 0) (sub8 b f t) := by
  obtain ⟨a', cap', e, q1, q2, q3, q4⟩ := h
  cases e
  have hl := sub8_len h1 h2
  refine ⟨a, 0, by rw [hl], by rw [hl]; omega, by unfold maxLen; omega, fun _ => rfl, fun hp => ?_⟩
  rw [hl] at hp
  omega
theorem Is8.subN {w : World} {a : Option Addr} {cap : Nat} {b : List UInt8} (h : Is8 w (.slice a b.length cap) b) (f t : Nat) (h1 : f ≤ t) (h2 : t ≤ b.length) : Is8 w (.slice (Option.map (fun x => x.add f) a) (t - f) (cap - f)) (sub8 b f t) := by
  obtain ⟨a', cap', e, q1, q2, q3, q4⟩ := h
  cases e
  have hl := sub8_len h1 h2
  refine ⟨_, cap - f, by rw [hl], by rw [hl]; omega, by omega, fun e => ?_, fun hp => ?_⟩
  · cases a with
    | none => rw [q3 rfl]; omega
    | some x => cases e
  · rw [hl] at hp
    obtain ⟨bb, off, rfl, hc⟩ := q4 (by omega)
    refine ⟨bb, off + f, by show some ((⟨bb, off, none⟩ : Addr).add f) = _; rw [addr_add_off], ?_⟩
    intro i hi
    rw [hl] at hi
    have := hc (f + i) (by omega)
    rw [show off + f + i = off + (f + i) by omega, this]
    simp [u8At, byt_sub h1 h2 hi]
set_option maxRecDepth 100000 in
set_option maxHeartbeats 4000000 in
theorem kept_any (g : Nat) (vb : Value) (b : List UInt8) (i : Nat) (keep : Bool) (n : Int) (vt : Value) (vr : Value) (r : List UInt8) (B : Nat) (f t : Nat) (w : World) (hs : Scan w g vb i keep n vt) (ht : Text w g vb b) (ho : Own w B 5 vr (r.map u8V)) (hB : B ≤ w.heap.size) (h1 : f ≤ t) (h2 : t ≤ b.length) (hr : r.length ≤ 10000000) :
    Calls Try.prog 53 #[.pointer (some ⟨g, 0, none⟩), vr, .int .i64 f, .int .i64 t] w fun e w' => e = .returned (.string ⟨(if keep = true then r ++ sub8 b f t else []).toArray⟩) ∧ w.grownBy w' vr.ownBlock := by
  have c0 : w.cell? ⟨g, 0, none⟩ = some vb := by rw [Box.cell hs]; rfl
  have c2 : w.cell? ⟨g, 2, none⟩ = some (.bool keep) := by rw [Box.cell hs]; rfl
  have HS := Lib.hid hs
  have HT := Lib.hid ht
  have HO := Lib.hid ho
  have hm := ht.le
  clear hs ht ho
  cases keep with
  | false =>
    go_enter Try.func53, Try.ntmps53
    go_wp2_with fail
    go_ret
    exact ⟨rfl, grown_refl _ _⟩
  | true =>
    obtain ⟨a, cap, e, q1, q2, q3, q4⟩ := HT.out.is
    subst e
    have hq2 := q2
    unfold maxLen at q2
    have f1I : (f : Int) ≤ (t : Int) := by omega
    have f2I : (t : Int) ≤ (cap : Int) := by omega
    have f0I : (0 : Int) ≤ (f : Int) := by omega
    obtain ⟨ra, rcap, e⟩ : ∃ ra rc, vr = .slice ra r.length rc := by
      rcases HO.out.2 with ⟨rfl, hn⟩ | ⟨g2, cap2, cur, rfl, _⟩
      · exact ⟨none, 0, by simp at hn; rw [hn]; rfl⟩
      · exact ⟨some ⟨g2, 0, none⟩, cap2, by simp⟩
    subst e
    have HA := Lib.hid (Is8.sub0 HT.out.is f t h1 h2)
    have HN := Lib.hid (Is8.subN HT.out.is f t h1 h2)
    by_cases hcf : cap - f = 0
    · have HV := Lib.hid (HA.out hcf)
      by_cases hr0 : r = []
      · subst hr0
        go_enter Try.func53, Try.ntmps53
        go_wp2_with (refine wpList_toStr _ (by rfl) _ _ _ rfl 5 Try.underlying22 Try.underlying5 Try.underlying9 _ rfl _ HV.out ?_)
        go_ret
        exact ⟨rfl, grown_refl _ _⟩
      · have hlr : 0 < r.length := List.length_pos_iff.2 hr0
        have e0 : ((r.length : Int) == 0) = false := by rw [beq_eq_false_iff_ne]; omega
        have hsl := sub8_len h1 h2
        have hc2 : ((r.map u8V).length + (sub8 b f t).length) * 1 ≤ 140737488355328 := by simp; omega
        have hc3 : (r.map u8V).length + (sub8 b f t).length ≤ 9223372036854775807 := by simp; omega
        have hone : ∀ i, i < (sub8 b f t).length → (u8At (sub8 b f t) i).oneCell' = true := fun _ _ => rfl
        clear hr0 hsl
        go_enter Try.func53, Try.ntmps53
        go_wp2_with (at_builtin; refine wpList_appS _ rfl _ _ 22 rfl B 5 (.int .u8 0) 1 ok8 _ _ rfl HO.out _ _ _ rfl HV.out hone hc2 hc3 hB ?_)
        intro v' w2 hown2 hgr2
        rw [u8At_range, ← List.map_append] at hown2
        have H8 := Lib.hid hown2.is8
        have HG2 := Lib.hid hgr2
        clear hown2 hgr2
        go_wp2_with (refine wpList_toStr _ (by rfl) _ _ _ rfl 5 Try.underlying22 Try.underlying5 Try.underlying9 _ rfl _ H8.out ?_)
        go_ret
        exact ⟨rfl, HG2.out⟩
    · have HV := Lib.hid HN.out
      by_cases hr0 : r = []
      · subst hr0
        go_enter Try.func53, Try.ntmps53
        go_wp2_with (refine wpList_toStr _ (by rfl) _ _ _ rfl 5 Try.underlying22 Try.underlying5 Try.underlying9 _ rfl _ HV.out ?_)
        go_ret
        exact ⟨rfl, grown_refl _ _⟩
      · have hlr : 0 < r.length := List.length_pos_iff.2 hr0
        have e0 : ((r.length : Int) == 0) = false := by rw [beq_eq_false_iff_ne]; omega
        have hsl := sub8_len h1 h2
        have hc2 : ((r.map u8V).length + (sub8 b f t).length) * 1 ≤ 140737488355328 := by simp; omega
        have hc3 : (r.map u8V).length + (sub8 b f t).length ≤ 9223372036854775807 := by simp; omega
        have hone : ∀ i, i < (sub8 b f t).length → (u8At (sub8 b f t) i).oneCell' = true := fun _ _ => rfl
        clear hr0 hsl
        go_enter Try.func53, Try.ntmps53
        go_wp2_with (at_builtin; refine wpList_appS _ rfl _ _ 22 rfl B 5 (.int .u8 0) 1 ok8 _ _ rfl HO.out _ _ _ rfl HV.out hone hc2 hc3 hB ?_)
        intro v' w2 hown2 hgr2
        rw [u8At_range, ← List.map_append] at hown2
        have H8 := Lib.hid hown2.is8
        have HG2 := Lib.hid hgr2
        clear hown2 hgr2
        go_wp2_with (refine wpList_toStr _ (by rfl) _ _ _ rfl 5 Try.underlying22 Try.underlying5 Try.underlying9 _ rfl _ H8.out ?_)
        go_ret
        exact ⟨rfl, HG2.out⟩
end Go.Proofs.Ytkdmmmheciffgaa
