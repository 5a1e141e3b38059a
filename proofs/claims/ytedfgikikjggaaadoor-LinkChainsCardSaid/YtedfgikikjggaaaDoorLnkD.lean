/- What is left of a way: put and take. -/
import Derived.Test.YtedfgikikjggaaaDoorLnkC
import Derived.Test.YtedfgikikjggaaaDoorStrs
import Derived.Test.YtedfgikikjggaaaDoorBox
import Derived.Test.YtedfgikikjggaaaDoorMb1
set_option linter.unusedVariables false
set_option linter.unusedSimpArgs false
namespace Go.Proofs.YtedfgikikjggaaaDoor
open Go.RowKit

section
variable {w w' : World} {B : Nat} {e : TypeId} {v : Value} {xs : List Value}
theorem Own.notBox (h : Own w B e v xs) {g : Nat} {t : TypeId} {cs : List Value} (hb : Box w g t cs) (hne : e ≠ t) : v.ownBlock ≠ some g := by
  intro hv
  rcases h.2 with ⟨e1, -⟩ | ⟨g2, cap, cur, e1, -, hh, -⟩
  · rw [e1] at hv; simp [Value.ownBlock] at hv
  · rw [e1] at hv
    have e2 : g2 = g := by simpa [Value.ownBlock] using hv
    subst e2
    have hb2 : w.heap[g2]? = some (.cells cs.toArray t (0, 0)) := hb
    rw [hh] at hb2
    injection hb2 with hb2
    injection hb2 with _ h6 _
    exact hne h6
/-- One element stored. -/
theorem Own.putAt {g n cap : Nat} (h : Own w B e (.slice (some ⟨g, 0, none⟩) n cap) xs) (j : Nat) (u : Value) : Own (w.setCell ⟨g, j, none⟩ u) B e (.slice (some ⟨g, 0, none⟩) n cap) (xs.set j u) := by
  rcases h.2 with ⟨hv, hn⟩ | ⟨g2, cap2, cur, hv, hg, hb, hnc, hcm, hcs, ht⟩
  · cases hv
  · have hv' := hv
    injection hv with h1 h2 h3
    injection h1 with h1
    injection h1 with h1 _ _
    subst h1
    have b1 := heap_setCell_same w g j cur e u hb
    refine ⟨by simp, .inr ⟨g, cap2, _, by rw [List.length_set]; exact hv', hg, b1, by rw [List.length_set]; exact hnc, hcm, by simpa using hcs, ?_⟩⟩
    rw [← ht]
    simp only [Array.toList_setIfInBounds, List.length_set]
    rw [List.take_set]
    congr 1
    simp [ht]
/-- The first elements alone. -/
theorem Own.first {g n cap : Nat} (h : Own w B e (.slice (some ⟨g, 0, none⟩) n cap) xs) (m : Nat) (hm : m ≤ xs.length) : Own w B e (.slice (some ⟨g, 0, none⟩) m cap) (xs.take m) := by
  rcases h.2 with ⟨hv, hn⟩ | ⟨g2, cap2, cur, hv, hg, hb, hnc, hcm, hcs, ht⟩
  · cases hv
  · injection hv with h1 h2 h3
    injection h1 with h1
    injection h1 with h1 _ _
    subst h1; subst h3
    have hl : (xs.take m).length = m := by rw [List.length_take]; omega
    refine ⟨by simp, .inr ⟨g, cap, cur, by rw [hl], hg, hb, by omega, hcm, hcs, ?_⟩⟩
    rw [hl]
    conv => rhs; rw [← ht]
    rw [List.take_take]
    congr 1
    simp; omega
theorem Own.addr (h : Own w B e v xs) (h0 : xs ≠ []) : ∃ g cap, v = .slice (some ⟨g, 0, none⟩) xs.length cap ∧ B ≤ g ∧ g < w.heap.size ∧ xs.length ≤ cap ∧ cap ≤ maxLen := by
  rcases h.2 with ⟨hv, hn⟩ | ⟨g2, cap2, cur, hv, hg, hb, hnc, hcm, hcs, ht⟩
  · exact absurd (List.eq_nil_of_length_eq_zero hn) h0
  · exact ⟨g2, cap2, hv, hg, (Array.getElem?_eq_some_iff.1 hb).1, hnc, hcm⟩
theorem Own.at {g n cap : Nat} (h : Own w B e (.slice (some ⟨g, 0, none⟩) n cap) xs) {j : Nat} {u : Value} (hj : xs[j]? = some u) : w.cell? ⟨g, j, none⟩ = some u := by
  have := World.ownsRow.cells h (g := g) rfl j u hj
  rwa [addr_add] at this
theorem Own.thaw {g n cap : Nat} (h : Own w B e (.slice (some ⟨g, 0, none⟩) n cap) xs) (j : Nat) : w.frozen? ⟨g, j, none⟩ = false := by
  rcases h.2 with ⟨hv, hn⟩ | ⟨g2, cap2, cur, hv, hg, hb, hnc, hcm, hcs, ht⟩
  · cases hv
  · injection hv with h1 h2 h3
    injection h1 with h1
    injection h1 with h1 _ _
    subst h1
    simp [World.frozen?, hb]
end
/-- Boxes of other types are as they were. -/
def Keeps (w w' : World) : Prop := ∀ g t cs, t ≠ 69 → t ≠ 9 → Box w g t cs → Box w' g t cs
theorem Keeps.refl (w : World) : Keeps w w := fun _ _ _ _ _ h => h
theorem Keeps.trans {a b c : World} (h : Keeps a b) (k : Keeps b c) : Keeps a c := fun g t cs h1 h2 hb => k g t cs h1 h2 (h g t cs h1 h2 hb)
theorem Keeps.ext {w w' : World} (h : Below w.heap.size w w') : Keeps w w' := fun g t cs _ _ hb => hb.below h hb.lt
theorem Keeps.box {w w' : World} {b : Nat} {cs : List Value} (hb : Box w b 69 cs) (hg : w.grownBy w' (some b)) : Keeps w w' := fun g t ds h1 _ h => h.grown hg (fun e => by
  injection e with e
  subst e
  have h2 : w.heap[b]? = some (.cells cs.toArray 69 (0, 0)) := hb
  have h3 : w.heap[b]? = some (.cells ds.toArray t (0, 0)) := h
  rw [h2] at h3
  injection h3 with h3
  injection h3 with _ h6 _
  exact h1 h6.symm)
theorem Keeps.row {w w' : World} {B : Nat} {v : Value} {xs : List Value} (ho : Own w B 9 v xs) (hg : w.grownBy w' v.ownBlock) : Keeps w w' := fun g t ds _ h2 h => h.grown hg (ho.notBox h (Ne.symm h2))
/-- A way: its texts, and whether the next one is fresh. -/
def WayIs (w : World) (B b : Nat) (tx : List Bts) (f : Bool) : Prop := B ≤ b ∧ ∃ v, Box w b 69 [v, .bool f] ∧ Own w B 9 v (tx.map strV)
theorem WayIs.below {w w' : World} {B b : Nat} {tx : List Bts} {f : Bool} (h : WayIs w B b tx f) (hb : Below w.heap.size w w') : WayIs w' B b tx f := by
  obtain ⟨h0, v, h1, h2⟩ := h
  exact ⟨h0, v, h1.below hb h1.lt, h2.below hb⟩
theorem way_str : (9 : TypeId) ≠ 69 := by decide
theorem grown_low {w w' : World} {B : Nat} {row : Option Nat} (h : w.grownBy w' row) (hB : B ≤ w.heap.size) (hr : ∀ k, row = some k → B ≤ k) : Below B w w' := (Below.refl B w).grown h hB hr
set_option maxRecDepth 100000 in
set_option maxHeartbeats 2000000 in
theorem put_any (B b : Nat) (tx : List Bts) (f : Bool) (s : Bts) (w : World) (h : WayIs w B b tx f) (hl : tx.length ≤ 1000) (hB : B ≤ w.heap.size) :
    Calls Tryd.prog 34 #[.pointer (some ⟨b, 0, none⟩), .string ⟨s.toArray⟩] w fun e w' => e = .returned (.tuple #[]) ∧ WayIs w' B b (tx ++ [s]) true ∧ Below B w w' ∧ Keeps w w' := by
  obtain ⟨h0, v, h1, h2⟩ := h
  obtain ⟨va, vcap, rfl, -⟩ := h2.isStr
  have HBX := Lib.hid h1
  have HO := Lib.hid h2
  have c0 : w.cell? ⟨b, 0, none⟩ = some (.slice va tx.length vcap) := by rw [h1.cell]; rfl
  have hc1 : ∀ u ∈ (#[strV s] : Array Value).toList, u.oneCell' = true := by intro u hu; simp at hu; subst hu; rfl
  have hc2 : ((tx.map strV).length + 1) * 16 ≤ 140737488355328 := by rw [List.length_map]; omega
  have hc3 : (tx.map strV).length + 1 ≤ 9223372036854775807 := by rw [List.length_map]; omega
  clear h1 h2
  go_enter Tryd.func34, Tryd.ntmps34
  go_wp2_with (at_builtin; refine wpList_appL _ rfl _ _ 67 rfl B 9 (.string .empty) 16 ok16 _ _ rfl HO.out #[strV s] 1 1 rfl rfl hc1 hc2 hc3 hB ?_)
  intro v' w1 hown1 hgr1
  obtain ⟨g', cap', rfl, -⟩ := hown1.addr (by simp)
  obtain ⟨v', hv'⟩ : ∃ v', Value.slice (some ⟨g', 0, none⟩) (tx.map strV ++ (#[strV s] : Array Value).toList).length cap' = v' := ⟨_, rfl⟩
  have hs' : ∃ a n c, v' = .slice a n c := ⟨_, _, _, hv'.symm⟩
  rw [hv'] at hown1 ⊢
  clear hv'
  obtain ⟨a', n', c', rfl⟩ := hs'
  obtain ⟨v', hv'⟩ : ∃ v', Value.slice a' n' c' = v' := ⟨_, rfl⟩
  rw [hv'] at hown1
  have HBX1 : Hid (Box w1 b 69 [.slice va tx.length vcap, .bool f]) := Lib.hid (HBX.out.grown hgr1 (HO.out.notBox HBX.out way_str))
  have HO1 : Hid (Own w1 B 9 v' ((tx ++ [s]).map strV)) := Lib.hid (by rw [List.map_append]; exact hown1)
  have HK1 : Hid (Keeps w w1) := Lib.hid (Keeps.row HO.out hgr1)
  have HB1 : Hid (Below B w w1) := Lib.hid (grown_low hgr1 hB (fun k hk => (HO.out.row k hk).1))
  have d0 : w1.cell? ⟨b, 0, none⟩ = some (.slice va tx.length vcap) := by rw [HBX1.out.cell]; rfl
  have d1 : w1.cell? ⟨b, 1, none⟩ = some (.bool f) := by rw [HBX1.out.cell]; rfl
  have f0 : w1.frozen? ⟨b, 0, none⟩ = false := HBX1.out.frozen 0
  have HBX2 : Hid (Box (w1.setCell ⟨b, 0, none⟩ v') b 69 [v', .bool f]) := Lib.hid (HBX1.out.set 0 (by simp) v')
  have d2 : (w1.setCell ⟨b, 0, none⟩ v').cell? ⟨b, 1, none⟩ = some (.bool f) := by rw [HBX2.out.cell]; rfl
  have f2 : (w1.setCell ⟨b, 0, none⟩ v').frozen? ⟨b, 1, none⟩ = false := HBX2.out.frozen 1
  have HBX3 : Hid (Box ((w1.setCell ⟨b, 0, none⟩ v').setCell ⟨b, 1, none⟩ (.bool true)) b 69 [v', .bool true]) := Lib.hid (HBX2.out.set 1 (by simp) _)
  have hg2 := grownBy_trans (grownBy_set w1 b 0 v') (grownBy_set (w1.setCell ⟨b, 0, none⟩ v') b 1 (.bool true))
  have HG2 := Lib.hid hg2
  clear hown1 hgr1 hg2
  subst hv'
  go_wp2_with fail
  go_end0
  refine ⟨rfl, ⟨h0, _, HBX3.out, HO1.out.kept HG2.out (.inr (HO1.out.notBox HBX1.out way_str))⟩, HB1.out.trans (grown_low HG2.out ?_ (fun k hk => by injection hk with hk; omega)), HK1.out.trans (Keeps.box HBX1.out HG2.out)⟩
  exact Nat.le_trans hB HB1.out.size
def lastT (tx : List Bts) : Bts := tx.getLastD []
/-- What take leaves. -/
def TakePost (B b : Nat) (tx : List Bts) (f : Bool) (w : World) (e : Ending) (w' : World) : Prop :=
      (tx = [] ∧ e = .returned (.tuple #[.string ⟨([] : Bts).toArray⟩, .bool false]) ∧ WayIs w' B b tx f ∨
       tx ≠ [] ∧ e = .returned (.tuple #[.string ⟨(cutA (lastT tx) 47).toArray⟩, .bool true]) ∧ (cutO (lastT tx) 47 = true ∧ WayIs w' B b (tx.dropLast ++ [cutB (lastT tx) 47]) f ∨ cutO (lastT tx) 47 = false ∧ WayIs w' B b tx.dropLast true)) ∧ Below B w w' ∧ Keeps w w'
set_option maxRecDepth 100000 in
set_option maxHeartbeats 2000000 in
theorem take_any (B b : Nat) (tx : List Bts) (f : Bool) (w : World) (h : WayIs w B b tx f) (hl : tx.length ≤ 1000) (hB : B ≤ w.heap.size) (hm : (lastT tx).length ≤ 1000000) :
    Calls Tryd.prog 31 #[.pointer (some ⟨b, 0, none⟩)] w fun e w' => TakePost B b tx f w e w' := by
  obtain ⟨h0, v, h1, h2⟩ := h
  have HBX := Lib.hid h1
  have HO := Lib.hid h2
  have c0 : w.cell? ⟨b, 0, none⟩ = some v := by rw [h1.cell]; rfl
  by_cases htx : tx = []
  · subst htx
    have HP : Hid (∀ v, Box w b 69 [v, .bool f] → Own w B 9 v ([].map strV) → TakePost B b [] f w (.returned (.tuple #[.string ⟨([] : Bts).toArray⟩, .bool false])) w) := Lib.hid (fun v hx ho => ⟨.inl ⟨rfl, rfl, h0, v, hx, ho⟩, Below.refl _ _, Keeps.refl _⟩)
    obtain ⟨a, cap, e1, -⟩ := Own.isStr (ls := []) h2
    subst e1
    clear h1 h2 hm
    simp only [List.length_nil] at *
    go_enter Tryd.func31, Tryd.ntmps31
    go_wp2_with fail
    go_ret2
    exact HP.out _ HBX.out HO.out
  · obtain ⟨i, hi⟩ : ∃ i, tx.length = i + 1 := ⟨tx.length - 1, by cases tx with | nil => exact absurd rfl htx | cons _ _ => simp⟩
    obtain ⟨g, cap, e1, hg0, hg1, hg2, hg3⟩ := h2.addr (by simpa using htx)
    rw [List.length_map, hi] at e1 hg2
    subst e1
    unfold maxLen at hg3
    have hla : tx[i]? = some (lastT tx) := by
      unfold lastT
      rw [List.getLastD_eq_getLast?, List.getLast?_eq_getElem?, hi, Nat.add_sub_cancel, List.getElem?_eq_getElem (by omega)]
      rfl
    have hdl : tx.dropLast = tx.take i := by rw [List.dropLast_eq_take, hi]; rfl
    have hset : ∀ u, tx.set i u = tx.dropLast ++ [u] := fun u => by
      rw [hdl]
      apply List.ext_getElem?
      intro j
      rw [List.getElem?_set, List.getElem?_append]
      simp only [List.length_take, hi]
      by_cases hj : i = j
      · subst hj
        rw [if_pos rfl, if_pos (by omega), if_neg (by omega)]
        simp
      · rw [if_neg hj]
        by_cases hj2 : j < i
        · rw [if_pos (by omega), List.getElem?_take, if_pos hj2]
        · rw [if_neg (by omega), List.getElem?_eq_none (by omega), List.getElem?_eq_none (by simp; omega)]
    have HS : Hid (∀ u, tx.set i u = tx.dropLast ++ [u]) := Lib.hid hset
    have HD := Lib.hid hdl
    have ce : w.cell? ⟨g, i, none⟩ = some (.string ⟨(lastT tx).toArray⟩) := h2.at (by rw [List.getElem?_map, hla]; rfl)
    have fe : w.frozen? ⟨g, i, none⟩ = false := h2.thaw i
    have HC := Lib.hid (fun w => cut_any (lastT tx) 47 w hm)
    have hi1 : ((i + 1 : Nat) : Int) - 1 = (i : Int) := by omega
    have hi2 : (i : Int) < ((i + 1 : Nat) : Int) := by omega
    have hi3 : (i : Int) ≤ (cap : Int) := by omega
    have hi4 : i ≤ cap := by omega
    have hgne : g ≠ b := fun e => (HO.out.notBox HBX.out way_str) (by rw [e]; rfl)
    obtain ⟨A, hA⟩ : ∃ A, cutA (lastT tx) 47 = A := ⟨_, rfl⟩
    obtain ⟨R, hR⟩ : ∃ R, cutB (lastT tx) 47 = R := ⟨_, rfl⟩
    obtain ⟨O, hO⟩ : ∃ O, cutO (lastT tx) 47 = O := ⟨_, rfl⟩
    rw [hA, hR, hO] at HC
    have HAA := Lib.hid hA
    have HRR := Lib.hid hR
    have HOO := Lib.hid hO
    clear hA hR hO
    have f0 : ∀ n, (w.drewN n).frozen? ⟨b, 0, none⟩ = false := fun n => (HBX.out.drew n).frozen 0
    have HB2 : Hid (∀ n u, Box ((w.drewN n).setCell ⟨b, 0, none⟩ u) b 69 [u, .bool f]) := Lib.hid (fun n u => (HBX.out.drew n).set 0 (by simp) u)
    have d2 : ∀ n u, ((w.drewN n).setCell ⟨b, 0, none⟩ u).cell? ⟨b, 1, none⟩ = some (.bool f) := fun n u => by rw [(HB2.out n u).cell]; rfl
    have f2 : ∀ n u, ((w.drewN n).setCell ⟨b, 0, none⟩ u).frozen? ⟨b, 1, none⟩ = false := fun n u => (HB2.out n u).frozen 1
    clear h1 h2 hla hset hdl hl hm
    cases O with
    | true =>
      go_enter Tryd.func31, Tryd.ntmps31
      go_wp2_with fail
      refine (HC.out _).mono ?_
      rintro e w1 ⟨rfl, n, rfl⟩
      go_wp2_with fail
      go_ret2
      have hg3 := grownBy_set (w.drewN n) g i (.string ⟨R.toArray⟩)
      unfold TakePost
      rw [HAA.out, HRR.out, HOO.out]
      refine ⟨.inr ⟨htx, rfl, .inl ⟨rfl, h0, _, (HBX.out.drew n).grown hg3 (fun e => hgne (by injection e)), ?_⟩⟩, ?_, ?_⟩
      · have := (HO.out.drew n).putAt i (strV R)
        rw [← List.map_set, HS.out] at this
        exact this
      · exact (below_dr (Below.refl _ _) n).trans (grown_low hg3 hB (fun k hk => by injection hk with hk; omega))
      · exact (Keeps.ext (ext_drew w n)).trans (Keeps.row (HO.out.drew n) hg3)
    | false =>
      go_enter Tryd.func31, Tryd.ntmps31
      go_wp2_with fail
      refine (HC.out _).mono ?_
      rintro e w1 ⟨rfl, n, rfl⟩
      go_wp2_with fail
      go_ret2
      have hg4 := fun u => grownBy_trans (grownBy_set (w.drewN n) b 0 u) (grownBy_set ((w.drewN n).setCell ⟨b, 0, none⟩ u) b 1 (.bool true))
      unfold TakePost
      rw [HAA.out, HRR.out, HOO.out]
      refine ⟨.inr ⟨htx, rfl, .inr ⟨rfl, h0, _, (HB2.out n _).set 1 (by simp) _, ?_⟩⟩, ?_, ?_⟩
      · have := (HO.out.first i (by rw [List.length_map]; omega)).drew n
        rw [← List.map_take, ← HD.out] at this
        exact this.kept (hg4 _) (.inr (this.notBox (HBX.out.drew n) way_str))
      · exact (below_dr (Below.refl _ _) n).trans (grown_low (hg4 _) hB (fun k hk => by injection hk with hk; omega))
      · exact (Keeps.ext (ext_drew w n)).trans (Keeps.box (HBX.out.drew n) (hg4 _))
end Go.Proofs.YtedfgikikjggaaaDoor
