/- The leap. -/
import Derived.Test.YtedfgikikjggaaaDoorLnkD
import Derived.Test.YtedfgikikjggaaaDoorMf1
import Derived.Test.YtedfgikikjggaaaDoorRfC
set_option linter.unusedVariables false
set_option linter.unusedSimpArgs false
namespace Go.Proofs.YtedfgikikjggaaaDoor
open Go.RowKit

theorem set_last {tx : List Bts} {i : Nat} (hi : tx.length = i + 1) (u : Bts) : tx.set i u = tx.dropLast ++ [u] := by
  have hdl : tx.dropLast = tx.take i := by rw [List.dropLast_eq_take, hi]; rfl
  rw [hdl]
  apply List.ext_getElem?
  intro j
  rw [List.getElem?_set, List.getElem?_append]
  simp only [List.length_take, hi]
  by_cases hj : i = j
  · subst hj
    rw [if_pos rfl, if_pos (by omega), if_neg (by omega)]
    simp
  · rw [if_neg hj]
    by_cases hj2 : j < i
    · rw [if_pos (by omega), List.getElem?_take, if_pos hj2]
    · rw [if_neg (by omega), List.getElem?_eq_none (by omega), List.getElem?_eq_none (by simp; omega)]
theorem leap_at {all : List Nd} (ht : TreeOf all) {h T0 P : Bts} {S : Nat} {E : List Nat} (hh : h ≠ []) (hS : (joinL h []).length = S) (hP : joinL h T0 = P) (hE : endsOf (splitB 47 T0) S = E) {j : Nat} (hj : j < E.length) :
    ∃ u, E[j]? = some (S + u) ∧ E.getD j 0 = S + u ∧ u ≤ T0.length ∧ P.take (E.getD j 0) = joinL h (T0.take u) ∧ ((lookN all (P.take (E.getD j 0))).isSome = true → 0 < j → (lookN all (P.take (E.getD (j - 1) 0))).isSome = true) := by
  have key : ∀ i, i < E.length → ∃ u, E[i]? = some (S + u) ∧ E.getD i 0 = S + u ∧ u ≤ T0.length ∧ P.take (E.getD i 0) = joinL h (T0.take u) := fun i hi => by
    obtain ⟨u, h1, h2⟩ := ends_get (t := T0) (a := S) (j := i) (by rw [hE]; exact hi)
    rw [hE] at h1
    have h3 : E.getD i 0 = S + u := by rw [List.getD_eq_getElem?_getD, h1]; rfl
    exact ⟨u, h1, h3, h2, by rw [h3, ← hS, ← hP, joinL_take]⟩
  obtain ⟨u, h1, h2, h3, h4⟩ := key j hj
  refine ⟨u, h1, h2, h3, h4, fun h5 h6 => ?_⟩
  obtain ⟨u', g1, g2, g3, g4⟩ := key (j - 1) (by omega)
  rw [h4] at h5
  rw [g4]
  obtain ⟨nd, hnd, -⟩ := ends_down ht T0 h hh S (j - 1) u' u (by rw [hE]; exact g1) (by rw [hE, show j - 1 + 1 = j by omega]; exact h1) h5
  rw [hnd]; rfl
/-- What the leap's worlds have in common. -/
structure LSt (w : World) (B b bt t : Nat) (v : Value) (xs : List Value) (all : List Nd) (c : Int) (W : World) : Prop where
  way : Box W b 69 [v, .bool false]
  own : Own W B 9 v xs
  tree : TreeIs W t all c
  bt : Box W bt 25 [.pointer (some ⟨t, 0, none⟩)]
  low : Below B w W
  keeps : Keeps w W
  size : w.heap.size ≤ W.heap.size
theorem LSt.below {w : World} {B b bt t : Nat} {v : Value} {xs : List Value} {all : List Nd} {c : Int} {W W' : World} (hB : B ≤ w.heap.size) (h : LSt w B b bt t v xs all c W) (hb : Below W.heap.size W W') : LSt w B b bt t v xs all c W' :=
  ⟨h.way.below hb h.way.lt, h.own.below hb, h.tree.below hb, h.bt.below hb h.bt.lt, h.low.trans (hb.mono (Nat.le_trans hB h.size)), h.keeps.trans (Keeps.ext hb), Nat.le_trans h.size hb.size⟩
def LeapPost (B b : Nat) (tx : List Bts) (h : Bts) (all : List Nd) (w : World) (e : Ending) (w' : World) : Prop :=
  ∃ (tx' : List Bts) (h' : Bts) (k' : Int) (f' : Bool), e = .returned (.tuple #[.string ⟨h'.toArray⟩, .int .i64 k']) ∧ WayIs w' B b tx' f' ∧ LeapTo all tx tx' h h' k' ∧ Below B w w' ∧ Keeps w w'
theorem LeapPost.ext {B b : Nat} {tx : List Bts} {h : Bts} {all : List Nd} {w : World} {e : Ending} {w' w'' : World} (hp : LeapPost B b tx h all w e w') (hB : B ≤ w.heap.size) (hb : Below w'.heap.size w' w'') : LeapPost B b tx h all w e w'' := by
  obtain ⟨tx', h', k', f', h1, h2, h3, h4, h5⟩ := hp
  exact ⟨tx', h', k', f', h1, h2.below hb, h3, h4.trans (hb.mono (Nat.le_trans hB h4.size)), h5.trans (Keeps.ext hb)⟩
set_option maxRecDepth 100000 in
set_option maxHeartbeats 8000000 in
theorem leap_any (B b t : Nat) (tx : List Bts) (f : Bool) (h : Bts) (all : List Nd) (c : Int) (w0 w : World) (hw : WayIs w B b tx f) (ht : TreeIs w0 t all c) (hB0 : B = w0.heap.size) (hlow : Below B w0 w) (hta : TreeOf all) (hl : tx.length ≤ 1000) (hb : ∀ s ∈ tx, s.length ≤ 1000000) (hh : h ≠ []) (hhl : h.length ≤ 1024) (hB : B ≤ w.heap.size) :
    Calls Tryd.prog 30 #[.pointer (some ⟨b, 0, none⟩), .pointer (some ⟨t, 0, none⟩), .string ⟨h.toArray⟩] w fun e w' => LeapPost B b tx h all w e w' := by
  obtain ⟨h0, v, h1, h2⟩ := hw
  by_cases htx : tx = []
  · subst htx
    have HP : Hid (∀ o, LeapPost B b [] h all w (.returned (.tuple #[.string ⟨h.toArray⟩, .int .i64 2])) (w.alloc o)) := Lib.hid (fun o => ⟨[], h, 2, f, rfl, ⟨h0, v, h1.alloc o, h2.below (ext_alloc w o)⟩, LeapTo.refl all [] h hb, (ext_alloc w o).mono hB, Keeps.ext (ext_alloc w o)⟩)
    obtain ⟨a, cap, e1, -⟩ := Own.isStr (ls := []) h2
    subst e1
    have c0 : ∀ o, (w.alloc o).cell? ⟨b, 0, none⟩ = some (.slice a 0 cap) := fun o => by rw [(h1.alloc o).cell]; rfl
    clear h1 h2 hb ht hta
    simp only [List.length_nil] at *
    go_enter Tryd.func30, Tryd.ntmps30
    go_wp2_with fail
    go_ret2
    exact HP.out _
  · obtain ⟨i, hi⟩ : ∃ i, tx.length = i + 1 := ⟨tx.length - 1, by cases tx with | nil => exact absurd rfl htx | cons _ _ => simp⟩
    obtain ⟨g, cap, e1, hg0, hg1, hg2, hg3⟩ := h2.addr (by simpa using htx)
    rw [List.length_map, hi] at e1 hg2
    subst e1
    unfold maxLen at hg3
    have hla : tx[i]? = some (lastT tx) := by
      unfold lastT
      rw [List.getLastD_eq_getLast?, List.getLast?_eq_getElem?, hi, Nat.add_sub_cancel, List.getElem?_eq_getElem (by omega)]
      rfl
    have HE : Hid (∀ W, Own W B 9 (.slice (some ⟨g, 0, none⟩) (i + 1) cap) (tx.map strV) → W.cell? ⟨g, i, none⟩ = some (.string ⟨(lastT tx).toArray⟩) ∧ W.frozen? ⟨g, i, none⟩ = false) := Lib.hid (fun W ho => ⟨ho.at (by rw [List.getElem?_map, hla]; rfl), ho.thaw i⟩)
    have hi1 : ((i + 1 : Nat) : Int) - 1 = (i : Int) := by omega
    have hi2 : (i : Int) < ((i + 1 : Nat) : Int) := by omega
    have hlm : (lastT tx).length ≤ 1000000 := hb _ (List.mem_of_getElem? hla)
    obtain ⟨q, hq, htr⟩ := trimSl_drop (lastT tx)
    obtain ⟨s1, s2⟩ := joinL_nil_len h
    have hSt : Hid (LSt w B b w.heap.size t (.slice (some ⟨g, 0, none⟩) (i + 1) cap) (tx.map strV) all c ((w.alloc (.cells #[.pointer (some ⟨t, 0, none⟩)] 25)).setCell ⟨b, 1, none⟩ (.bool false))) := Lib.hid (by
      have hx := h1.alloc (.cells #[.pointer (some ⟨t, 0, none⟩)] 25)
      have hg := grownBy_set (w.alloc (.cells #[.pointer (some ⟨t, 0, none⟩)] 25)) b 1 (.bool false)
      have ho := h2.below (ext_alloc w (.cells #[.pointer (some ⟨t, 0, none⟩)] 25))
      have hlo := ((Below.refl B w).alloc hB (.cells #[.pointer (some ⟨t, 0, none⟩)] 25)).trans (grown_low hg (Nat.le_trans hB (ext_alloc w (.cells #[.pointer (some ⟨t, 0, none⟩)] 25)).size) (fun k hk => by injection hk with hk; omega))
      refine ⟨hx.set 1 (by simp) _, ho.kept hg (.inr (ho.notBox hx way_str)), ?_, (Box.new w _ _).grown hg (fun e => by injection e with e; have := h1.lt; omega), hlo, (Keeps.ext (ext_alloc w _)).trans (Keeps.box hx hg), Nat.le_trans (ext_alloc w _).size hg.size⟩
      exact ht.below (hB0 ▸ hlow.trans hlo))
    have c0 : ∀ o, (w.alloc o).cell? ⟨b, 0, none⟩ = some (.slice (some ⟨g, 0, none⟩) (i + 1) cap) := fun o => by rw [(h1.alloc o).cell]; rfl
    have c1 : ∀ o, (w.alloc o).cell? ⟨b, 1, none⟩ = some (.bool f) := fun o => by rw [(h1.alloc o).cell]; rfl
    have f1 : ∀ o, (w.alloc o).frozen? ⟨b, 1, none⟩ = false := fun o => (h1.alloc o).frozen 1
    have HBL := Lib.hid (fun (s : Bts) (W : World) (hs : s.length ≤ 1000000) => (below_any h s W (by omega) (by omega)).mono (fun e w' (hp : e = .returned (.string ⟨(joinL h s).toArray⟩) ∧ W = w') => (⟨hp.1, by rw [← hp.2]; exact Below.refl _ _⟩ : e = .returned (.string ⟨(joinL h s).toArray⟩) ∧ Below W.heap.size W w')))
    clear h1 h2 hla hq
    go_enter Tryd.func30, Tryd.ntmps30
    go_wp2_with fail
    refine (HBL.out [] _ (by simp)).mono ?_
    rintro e w2 ⟨rfl, hb2⟩
    have HS2 := Lib.hid (hSt.out.below hB hb2)
    have c2 : w2.cell? ⟨b, 0, none⟩ = some (.slice (some ⟨g, 0, none⟩) (i + 1) cap) := by rw [HS2.out.way.cell]; rfl
    have e2 := (HE.out w2 HS2.out.own).1
    have HTL := Lib.hid ((trimLeft_any (lastT tx) w2 (by omega)).mono (fun e w' (hp : e = .returned (.string ⟨(trimSl (lastT tx)).toArray⟩) ∧ ∃ n, w' = w2.drewN n) => (⟨hp.1, by obtain ⟨n, rfl⟩ := hp.2; exact ext_drew w2 n⟩ : e = .returned (.string ⟨(trimSl (lastT tx)).toArray⟩) ∧ Below w2.heap.size w2 w')))
    clear hb2 hSt c0 c1 f1
    go_wp2_with fail
    refine HTL.out.mono ?_
    rintro e w3 ⟨rfl, hb3⟩
    have HS3 := Lib.hid (HS2.out.below hB hb3)
    clear hb3 HTL c2 e2 HS2
    have htl : (trimSl (lastT tx)).length ≤ 1000000 := by rw [htr, List.length_drop]; omega
    obtain ⟨X, hX⟩ : ∃ X, trimSl (lastT tx) = X := ⟨_, rfl⟩
    rw [hX] at htl ⊢
    have HX := Lib.hid hX
    obtain ⟨S, hS⟩ : ∃ S, (joinL h []).length = S := ⟨_, rfl⟩
    rw [hS] at s1 s2 ⊢
    have HSS := Lib.hid hS
    clear hX hS htr
    have hsw : IntKind.i64.wrap (1025 - (S : Int)) = 1025 - (S : Int) := IntWalk.i64_in _ (by omega)
    obtain ⟨m, hm⟩ : ∃ m, (min ((X.length : Nat) : Int) (max (1025 - (S : Int)) 0)).toNat = m := ⟨_, rfl⟩
    have hm1 : X.length ≤ m ∨ S + m = 1025 ∧ m < X.length := by omega
    have hm2 : m ≤ X.length := by omega
    have hm3 : S + m ≤ 1025 := by omega
    obtain ⟨T0, hT0⟩ : ∃ T0, X.take m = T0 := ⟨_, rfl⟩
    have HT0 := Lib.hid hT0
    have hT0l : T0.length = m := by rw [← hT0, List.length_take]; omega
    obtain ⟨P, hP⟩ : ∃ P, joinL h T0 = P := ⟨_, rfl⟩
    have HPP := Lib.hid hP
    have hPl : P.length = S + m := by rw [← hP, joinL_len, HSS.out, hT0l]
    go_wp2_with fail
    refine (HBL.out T0 _ (by omega)).mono ?_
    rintro e w4 ⟨rfl, hb4⟩
    try rw [hP]
    have HS4 := Lib.hid (HS3.out.below hB hb4)
    have HS4a := Lib.hid ((HS3.out.below hB hb4).below hB (ext_alloc w4 (.cells #[.string ⟨P.toArray⟩] 9)))
    have HBP := Lib.hid (Box.new w4 9 [.string ⟨P.toArray⟩])
    have HPE := Lib.hid (plainEnds_any P S (w4.alloc (.cells #[.string ⟨P.toArray⟩] 9)) (by omega) (by omega))
    have hdrop : P.drop S = T0 := by rw [← hP, joinL_app, ← HSS.out, List.drop_left']; rfl
    rw [hdrop] at HPE
    clear hb4 HS3 hT0 hP hm HBL hdrop
    go_wp2_with fail
    refine HPE.out.mono ?_
    rintro e w5 ⟨ve, rfl, ho5, hb5⟩
    obtain ⟨E, hE⟩ : ∃ E, endsOf (splitB 47 T0) S = E := ⟨_, rfl⟩
    rw [hE] at ho5
    have HEE := Lib.hid hE
    have hEl : E.length ≤ 1000000 := by
      have h1 := endsOf_len (splitB 47 T0) S
      have h2 := (splitB_len 47 T0).1
      rw [hE] at h1; omega
    have HI5 := Lib.hid ho5.isI
    obtain ⟨va, vc, rfl, -⟩ := ho5.isI
    have HS5 := Lib.hid ((HS4a.out.below hB hb5).below hB (ext_alloc w5 (.cells #[.slice va E.length vc] 86)))
    have HBP5 := Lib.hid ((HBP.out.below hb5 HBP.out.lt).alloc (.cells #[.slice va E.length vc] 86))
    have HBE := Lib.hid (Box.new w5 86 [.slice va E.length vc])
    have hEb : ∀ j, j < E.length → S ≤ E.getD j 0 ∧ E.getD j 0 ≤ P.length := fun j hj => by
      obtain ⟨e, h1, h2⟩ := ends_get (t := T0) (a := S) (j := j) (by rw [hE]; exact hj)
      rw [hE] at h1
      rw [List.getD_eq_getElem?_getD, h1]
      simp; omega
    have HEB := Lib.hid hEb
    have HSR := Lib.hid (search_any E.length (.pointer (some ⟨w.heap.size, 0, none⟩)) (.pointer (some ⟨w4.heap.size, 0, none⟩)) (.pointer (some ⟨w5.heap.size, 0, none⟩)) (fun j => !(lookN all (P.take (E.getD j 0))).isSome) (w5.alloc (.cells #[.slice va E.length vc] 86)) (by omega) (fun j hj W hb => by
      have k5 := HS5.out.below hB hb
      exact clo_leap w.heap.size w4.heap.size w5.heap.size t all c P E _ j W k5.tree (by omega) hj (HEB.out j hj).2 (by rw [k5.bt.cell]; rfl) (by rw [(HBP5.out.below hb HBP5.out.lt).cell]; rfl) (by rw [(HBE.out.below hb HBE.out.lt).cell]; rfl) ((HI5.out.below (ext_alloc _ _)).below hb)))
    clear hE hEb ho5 hb5 HS4 HS4a HPE HBP
    go_wp2_with fail
    refine HSR.out.mono ?_
    rintro e w6 ⟨r, hr, rfl, hgr, hb6⟩
    have HS6 := Lib.hid (HS5.out.below hB hb6)
    have HBP6 := Lib.hid (HBP5.out.below hb6 HBP5.out.lt)
    have HBE6 := Lib.hid (HBE.out.below hb6 HBE.out.lt)
    have HI6 := Lib.hid ((HI5.out.below (ext_alloc w5 (.cells #[.slice va E.length vc] 86))).below hb6)
    have HGR : Hid (0 < r → (lookN all (P.take (E.getD (r - 1) 0))).isSome = true) := Lib.hid (fun h => by have := hgr h; simpa using this)
    have hrw : IntKind.i64.wrap ((r : Int) - 1) = (r : Int) - 1 := IntWalk.i64_in _ (by omega)
    clear hgr hb6 HSR HBP5 HBE HS5 HI5
    have HPOST : Hid (∀ W, LSt w B b w.heap.size t (.slice (some ⟨g, 0, none⟩) (i + 1) cap) (tx.map strV) all c W → LeapPost B b tx h all w (.returned (.tuple #[.string ⟨h.toArray⟩, .int .i64 2])) W) := Lib.hid (fun W hs => ⟨tx, h, 2, false, rfl, ⟨h0, _, hs.way, hs.own⟩, LeapTo.refl all tx h hb, hs.low, hs.keeps⟩)
    go_wp2_with fail
    go_loopw [13] (fun ti wr => ∃ k : Nat, k ≤ r ∧ ti = .int .i64 ((k : Int) - 1) ∧ Hid (0 < k → (lookN all (P.take (E.getD (k - 1) 0))).isSome = true) ∧ Hid (Below w6.heap.size w6 wr)) (fun ti _ => (intOf ti + 1).toNat)
    case atStart => exact ⟨r, Nat.le_refl _, rfl, HGR, Lib.hid (Below.refl _ _)⟩
    case round =>
      obtain ⟨k, hk, rfl, HL, HB⟩ := hrel
      have HSR := Lib.hid (HS6.out.below hB HB.out)
      cases k with
      | zero =>
        go_wp2_with fail
        go_ret2
        exact HPOST.out _ HSR.out
      | succ j =>
        have hji : ((j + 1 : Nat) : Int) - 1 = (j : Int) := by omega
        rw [hji]
        obtain ⟨nd, hnd⟩ := Option.isSome_iff_exists.1 (HL.out (by omega))
        rw [show j + 1 - 1 = j by omega] at hnd
        have hjE : j < E.length := by omega
        obtain ⟨u, hu1, hu2, hu3, hu4, hu5⟩ := leap_at hta hh HSS.out HPP.out HEE.out hjE
        have HDN : Hid (0 < j → (lookN all (P.take (E.getD (j - 1) 0))).isSome = true) := Lib.hid (hu5 (by rw [hnd]; rfl))
        have HFIN : Hid (nd.k ≠ 3 → ∀ W, LSt w B b w.heap.size t (.slice (some ⟨g, 0, none⟩) (i + 1) cap) (tx.map strV) all c W → LeapPost B b tx h all w (.returned (.tuple #[.string ⟨nd.p.toArray⟩, .int .i64 nd.k])) (W.setCell ⟨g, i, none⟩ (.string ⟨(X.drop u).toArray⟩))) := Lib.hid (fun hk W hs => by
          have hg := grownBy_set W g i (.string ⟨(X.drop u).toArray⟩)
          have ho := hs.own.putAt i (strV (X.drop u))
          rw [← List.map_set, set_last hi] at ho
          refine ⟨tx.dropLast ++ [X.drop u], nd.p, nd.k, false, rfl, ⟨h0, _, hs.way.grown hg (fun e => hs.own.notBox hs.way way_str e), ho⟩, ?_, hs.low.trans (grown_low hg (Nat.le_trans hB hs.size) (fun k hk => by injection hk with hk; omega)), hs.keeps.trans (Keeps.row hs.own hg)⟩
          rw [hu4] at hnd
          rw [← HT0.out, ← HX.out] at hnd
          have hE0 := HEE.out
          rw [← HT0.out, ← HX.out, ← HSS.out] at hE0
          rw [← HX.out]
          exact LeapTo.to hta hh htx hb (m := m) (j := j) (e := u) (nd := nd) (by rw [show tx.getLastD [] = lastT tx from rfl, hE0, HSS.out]; exact hu1) hnd hk (by rw [show tx.getLastD [] = lastT tx from rfl, HX.out, HSS.out]; exact hm1))
        clear hu4 hu5
        obtain ⟨hE1, hE2⟩ := HEB.out j hjE
        obtain ⟨b5, o5, rfl, hc5⟩ : ∃ b5 o5, va = some ⟨b5, o5, none⟩ ∧ Cells w6 b5 o5 E.length (iAt E) := by
          obtain ⟨a', cap', e1, -, -, -, h3⟩ := HI6.out
          injection e1 with e1 _ _
          subst e1
          exact h3 (by omega)
        have q1 := cellKeep HB.out (hc5 j hjE)
        unfold iAt at q1
        have HLK := Lib.hid (fun (W : World) (hW : Below wr.heap.size wr W) => Look_any t all c (P.take (E.getD j 0)) W (HSR.out.tree.below hW) (by rw [List.length_take]; omega))
        obtain ⟨q, kd, d⟩ := nd
        rw [hnd] at HLK
        simp only [Option.getD_some, Option.isSome_some, ndV] at HLK
        have HND := Lib.hid hnd
        have hju : ((E.getD j 0 : Nat) : Int) - (S : Int) = (u : Int) := by omega
        have huX : (u : Int) ≤ (X.length : Int) := by omega
        have huX0 : (0 : Int) ≤ (u : Int) := by omega
        have huw : IntKind.i64.wrap (u : Int) = (u : Int) := IntWalk.i64_in _ (by omega)
        clear hu1 hu2
        generalize E.getD j 0 = ej at *
        have q2 : wr.cell? ⟨w.heap.size, 0, none⟩ = some (.pointer (some ⟨t, 0, none⟩)) := by rw [HSR.out.bt.cell]; rfl
        have q3 : wr.cell? ⟨w4.heap.size, 0, none⟩ = some (.string ⟨P.toArray⟩) := by rw [(HBP6.out.below HB.out HBP6.out.lt).cell]; rfl
        have q4 : wr.cell? ⟨w5.heap.size, 0, none⟩ = some (.slice (some ⟨b5, o5, none⟩) E.length vc) := by rw [(HBE6.out.below HB.out HBE6.out.lt).cell]; rfl
        clear hnd HL
        go_wp2_with fail
        have hjI : (j : Int) < (E.length : Int) := by omega
        have hjI0 : (0 : Int) ≤ (j : Int) := by omega
        have heI : (ej : Int) ≤ (P.length : Int) := by omega
        have heI2 : ¬ ((S : Int) + (m : Int) < (ej : Int)) := by omega
        have heI0 : (0 : Int) ≤ (ej : Int) := by omega
        have hks : IntKind.i64.wrap ((j : Int) - 1) = (j : Int) - 1 := IntWalk.i64_in _ (by omega)
        by_cases hk3 : kd = 3
        · subst hk3
          refine wp_region_held_drew (S := fun W => Below wr.heap.size wr W) (by kernel_rfl) (below_dr (Below.refl _ _) 1) (fun hHeld => ?_)
          refine takeH_on 0 (some 62) (.pointer (some ⟨t, 0, none⟩)) rfl rfl (by kernel_rfl) (by kernel_rfl) (by kernel_rfl) (fun _ _ _ h => h) (by rfl) (fun W hW => by have k := cellKeep hW q2; go_simp) hHeld ?_
          simp only [Act.put, List.setIfInBounds_toArray, List.set_cons_zero, List.set_cons_succ]
          refine takeH_on 1 (some 63) (.string ⟨P.toArray⟩) rfl rfl (by kernel_rfl) (by kernel_rfl) (by kernel_rfl) (fun _ _ _ h => h) (by rfl) (fun W hW => by have k := cellKeep hW q3; go_simp) hHeld ?_
          simp only [Act.put, List.setIfInBounds_toArray, List.set_cons_zero, List.set_cons_succ]
          refine takeH_on 2 (some 64) (.slice (some ⟨b5, o5, none⟩) E.length vc) rfl rfl (by kernel_rfl) (by kernel_rfl) (by kernel_rfl) (fun _ _ _ h => h) (by rfl) (fun W hW => by have k := cellKeep hW q4; go_simp) hHeld ?_
          simp only [Act.put, List.setIfInBounds_toArray, List.set_cons_zero, List.set_cons_succ]
          refine takeH_on 3 (some 65) (.int .i64 (j : Int)) rfl rfl (by kernel_rfl) (by kernel_rfl) (by kernel_rfl) (fun _ _ _ h => h) (by rfl) (fun W hW => by go_simp) hHeld ?_
          simp only [Act.put, List.setIfInBounds_toArray, List.set_cons_zero, List.set_cons_succ]
          refine takeH_on 4 (some 66) (.pointer (some ⟨b5, o5 + j, none⟩)) rfl rfl (by kernel_rfl) (by kernel_rfl) (by kernel_rfl) (fun _ _ _ h => h) (by rfl) (fun W hW => by go_simp) hHeld ?_
          simp only [Act.put, List.setIfInBounds_toArray, List.set_cons_zero, List.set_cons_succ]
          refine takeH_on 5 (some 67) (.int .i64 (ej : Int)) rfl rfl (by kernel_rfl) (by kernel_rfl) (by kernel_rfl) (fun _ _ _ h => h) (by rfl) (fun W hW => by have k := cellKeep hW q1; go_simp) hHeld ?_
          simp only [Act.put, List.setIfInBounds_toArray, List.set_cons_zero, List.set_cons_succ]
          refine takeH_on 6 (some 68) (.string ⟨(P.take ej).toArray⟩) rfl rfl (by kernel_rfl) (by kernel_rfl) (by kernel_rfl) (fun _ _ _ h => h) (by rfl) (fun W hW => by go_simp) hHeld ?_
          simp only [Act.put, List.setIfInBounds_toArray, List.set_cons_zero, List.set_cons_succ]
          refine wpAnyH_ready (rs := [7, 11]) (by kernel_rfl) (by simp) ?_
          refine AllReadyH.cons rfl (fun K hK => ?_) (AllReadyH.cons rfl (fun K hK => ?_) AllReadyH.nil)
          · go_simp
            refine (HLK.out _ hHeld).mono ?_
            rintro e w7 ⟨rfl, hb7⟩
            have hS7 := hHeld.trans (hb7.mono hHeld.size)
            go_wp2_with fail
            refine hK.out _ _ hS7 (fun hH7 => ?_)
            clear hK K
            refine takeH_on 8 (some 61) (.tuple #[.agg #[.string ⟨q.toArray⟩, .int .i64 3, .string ⟨d.toArray⟩], .bool true]) rfl rfl (by kernel_rfl) (by kernel_rfl) (by kernel_rfl) (fun _ _ _ h => h) (by rfl) (fun W hW => by go_simp) hH7 ?_
            simp only [Act.put, List.setIfInBounds_toArray, List.set_cons_zero, List.set_cons_succ]
            refine takeH_on 9 (some 70) (.agg #[.string ⟨q.toArray⟩, .int .i64 3, .string ⟨d.toArray⟩]) rfl rfl (by kernel_rfl) (by kernel_rfl) (by kernel_rfl) (fun _ _ _ h => h) (by rfl) (fun W hW => by go_simp) hH7 ?_
            simp only [Act.put, List.setIfInBounds_toArray, List.set_cons_zero, List.set_cons_succ]
            refine takeH_on 10 (some 71) (.bool true) rfl rfl (by kernel_rfl) (by kernel_rfl) (by kernel_rfl) (fun _ _ _ h => h) (by rfl) (fun W hW => by go_simp) hH7 ?_
            simp only [Act.put, List.setIfInBounds_toArray, List.set_cons_zero, List.set_cons_succ]
            refine wpAnyH_ready (rs := [11]) (by kernel_rfl) (by simp) ?_
            refine AllReadyH.cons rfl (fun K hK => ?_) AllReadyH.nil
            go_simp
            refine hK.out _ _ (hH7.alloc hH7.size _) (fun hH8 => ?_)
            clear hK K
            try simp only [Act.put, List.setIfInBounds_toArray, List.set_cons_zero, List.set_cons_succ]
            refine wpAnyH_ready (rs := [12]) (by kernel_rfl) (by simp) ?_
            refine AllReadyH.cons rfl (fun K hK => ?_) AllReadyH.nil
            go_simp
            refine hK.out _ _ (hH7.alloc hH7.size _) (fun hH9 => ?_)
            clear hK K
            refine takeH_on 13 (some 15) (.bool true) rfl rfl (by kernel_rfl) (by kernel_rfl) (by kernel_rfl) (fun _ _ _ h => h) (by rfl) (fun W hW => by go_simp) hH9 ?_
            simp only [Act.put, List.setIfInBounds_toArray, List.set_cons_zero, List.set_cons_succ]
            refine wpAnyH_done (by kernel_rfl) ?_ _
            have HBX := Lib.hid (Box.new w7 35 (ndC ⟨q, 3, d⟩))
            obtain ⟨W9, hW9⟩ : ∃ W, w7.alloc (.cells #[.string ⟨q.toArray⟩, .int .i64 3, .string ⟨d.toArray⟩] 35) = W := ⟨_, rfl⟩
            have hbx : Box W9 w7.heap.size 35 (ndC ⟨q, 3, d⟩) := by rw [← hW9]; exact HBX.out
            rw [hW9] at hH9 ⊢
            clear hW9 HBX hH8 hS7 hHeld hH7 hb7
            generalize w7.heap.size = nb at *
            have n1 : W9.cell? ⟨nb, 1, none⟩ = some (.int .i64 3) := by rw [hbx.cell]; rfl
            have HW9 := Lib.hid (ext_trans HB.out hH9)
            clear hH9 hbx q1 q2 q3 q4
            go_wp2_with fail
            exact ⟨⟨j, by omega, rfl, HDN, HW9⟩, by simp [intOf]⟩
          · go_simp
            refine hK.out _ _ (hHeld.alloc hHeld.size _) (fun hH8 => ?_)
            clear hK K
            try simp only [Act.put, List.setIfInBounds_toArray, List.set_cons_zero, List.set_cons_succ]
            refine wpAnyH_ready (rs := [7]) (by kernel_rfl) (by simp) ?_
            refine AllReadyH.cons rfl (fun K hK => ?_) AllReadyH.nil
            go_simp
            refine (HLK.out _ hH8).mono ?_
            rintro e w7 ⟨rfl, hb7⟩
            have hS7 := hH8.trans (hb7.mono hH8.size)
            go_wp2_with fail
            refine hK.out _ _ hS7 (fun hH7 => ?_)
            clear hK K
            refine takeH_on 8 (some 61) (.tuple #[.agg #[.string ⟨q.toArray⟩, .int .i64 3, .string ⟨d.toArray⟩], .bool true]) rfl rfl (by kernel_rfl) (by kernel_rfl) (by kernel_rfl) (fun _ _ _ h => h) (by rfl) (fun W hW => by go_simp) hH7 ?_
            simp only [Act.put, List.setIfInBounds_toArray, List.set_cons_zero, List.set_cons_succ]
            refine takeH_on 9 (some 70) (.agg #[.string ⟨q.toArray⟩, .int .i64 3, .string ⟨d.toArray⟩]) rfl rfl (by kernel_rfl) (by kernel_rfl) (by kernel_rfl) (fun _ _ _ h => h) (by rfl) (fun W hW => by go_simp) hH7 ?_
            simp only [Act.put, List.setIfInBounds_toArray, List.set_cons_zero, List.set_cons_succ]
            refine takeH_on 10 (some 71) (.bool true) rfl rfl (by kernel_rfl) (by kernel_rfl) (by kernel_rfl) (fun _ _ _ h => h) (by rfl) (fun W hW => by go_simp) hH7 ?_
            simp only [Act.put, List.setIfInBounds_toArray, List.set_cons_zero, List.set_cons_succ]
            have hb8 : Box w7 wr.heap.size 35 (ndC nd0) := (Box.new wr.drew 35 (ndC nd0)).below hb7 (Box.new wr.drew 35 (ndC nd0)).lt
            obtain ⟨t1, t2, t3, t4, t5⟩ := box_chain hb8
            have HB5 := Lib.hid t5
            have u0 : w7.cell? ⟨wr.heap.size, 0, none⟩ = some (.string ⟨#[]⟩) := (by rw [hb8.cell]; rfl)
            have u1 : w7.cell? ⟨wr.heap.size, 1, none⟩ = some (.int .i64 0) := (by rw [hb8.cell]; rfl)
            have u2 : w7.cell? ⟨wr.heap.size, 2, none⟩ = some (.string ⟨#[]⟩) := (by rw [hb8.cell]; rfl)
            have u3 : w7.frozen? ⟨wr.heap.size, 0, none⟩ = false := hb8.frozen 0
            clear t5
            refine wpAnyH_ready (rs := [12]) (by kernel_rfl) (by simp) ?_
            refine AllReadyH.cons rfl (fun K hK => ?_) AllReadyH.nil
            go_simp
            have hH9 := ((hH7.setCell (p := ⟨wr.heap.size, 0, none⟩) (Nat.le_refl _) (.string ⟨q.toArray⟩)).setCell (p := ⟨wr.heap.size, 1, none⟩) (Nat.le_refl _) (.int .i64 3)).setCell (p := ⟨wr.heap.size, 2, none⟩) (Nat.le_refl _) (.string ⟨d.toArray⟩)
            refine hK.out _ _ hH9 (fun _ => ?_)
            clear hK K
            refine takeH_on 13 (some 15) (.bool true) rfl rfl (by kernel_rfl) (by kernel_rfl) (by kernel_rfl) (fun _ _ _ h => h) (by rfl) (fun W hW => by go_simp) hH9 ?_
            simp only [Act.put, List.setIfInBounds_toArray, List.set_cons_zero, List.set_cons_succ]
            refine wpAnyH_done (by kernel_rfl) ?_ _
            have HBX := Lib.hid (HB5.out (.string ⟨q.toArray⟩) (.int .i64 3) (.string ⟨d.toArray⟩))
            obtain ⟨W9, hW9⟩ : ∃ W, ((w7.setCell ⟨wr.heap.size, 0, none⟩ (.string ⟨q.toArray⟩)).setCell ⟨wr.heap.size, 1, none⟩ (.int .i64 3)).setCell ⟨wr.heap.size, 2, none⟩ (.string ⟨d.toArray⟩) = W := ⟨_, rfl⟩
            have hbx : Box W9 wr.heap.size 35 (ndC ⟨q, 3, d⟩) := by rw [← hW9]; exact HBX.out
            rw [hW9] at hH9 ⊢
            clear hW9 HBX hH8 hS7 hHeld hH7 hb7 hb8 u0 u1 u2 u3 t1 t2 t3 t4 HB5
            obtain ⟨nb, hnb⟩ : ∃ nb, wr.heap.size = nb := ⟨_, rfl⟩
            rw [hnb] at hbx ⊢
            clear hnb
            have n1 : W9.cell? ⟨nb, 1, none⟩ = some (.int .i64 3) := by rw [hbx.cell]; rfl
            have HW9 := Lib.hid (ext_trans HB.out hH9)
            clear hH9 hbx q1 q2 q3 q4
            go_wp2_with fail
            exact ⟨⟨j, by omega, rfl, HDN, HW9⟩, by simp [intOf]⟩
        · have hk3b : (kd != 3) = true := by simpa using hk3
          refine wp_region_held_drew (S := fun W => Below wr.heap.size wr W) (by kernel_rfl) (below_dr (Below.refl _ _) 1) (fun hHeld => ?_)
          refine takeH_on 0 (some 62) (.pointer (some ⟨t, 0, none⟩)) rfl rfl (by kernel_rfl) (by kernel_rfl) (by kernel_rfl) (fun _ _ _ h => h) (by rfl) (fun W hW => by have k := cellKeep hW q2; go_simp) hHeld ?_
          simp only [Act.put, List.setIfInBounds_toArray, List.set_cons_zero, List.set_cons_succ]
          refine takeH_on 1 (some 63) (.string ⟨P.toArray⟩) rfl rfl (by kernel_rfl) (by kernel_rfl) (by kernel_rfl) (fun _ _ _ h => h) (by rfl) (fun W hW => by have k := cellKeep hW q3; go_simp) hHeld ?_
          simp only [Act.put, List.setIfInBounds_toArray, List.set_cons_zero, List.set_cons_succ]
          refine takeH_on 2 (some 64) (.slice (some ⟨b5, o5, none⟩) E.length vc) rfl rfl (by kernel_rfl) (by kernel_rfl) (by kernel_rfl) (fun _ _ _ h => h) (by rfl) (fun W hW => by have k := cellKeep hW q4; go_simp) hHeld ?_
          simp only [Act.put, List.setIfInBounds_toArray, List.set_cons_zero, List.set_cons_succ]
          refine takeH_on 3 (some 65) (.int .i64 (j : Int)) rfl rfl (by kernel_rfl) (by kernel_rfl) (by kernel_rfl) (fun _ _ _ h => h) (by rfl) (fun W hW => by go_simp) hHeld ?_
          simp only [Act.put, List.setIfInBounds_toArray, List.set_cons_zero, List.set_cons_succ]
          refine takeH_on 4 (some 66) (.pointer (some ⟨b5, o5 + j, none⟩)) rfl rfl (by kernel_rfl) (by kernel_rfl) (by kernel_rfl) (fun _ _ _ h => h) (by rfl) (fun W hW => by go_simp) hHeld ?_
          simp only [Act.put, List.setIfInBounds_toArray, List.set_cons_zero, List.set_cons_succ]
          refine takeH_on 5 (some 67) (.int .i64 (ej : Int)) rfl rfl (by kernel_rfl) (by kernel_rfl) (by kernel_rfl) (fun _ _ _ h => h) (by rfl) (fun W hW => by have k := cellKeep hW q1; go_simp) hHeld ?_
          simp only [Act.put, List.setIfInBounds_toArray, List.set_cons_zero, List.set_cons_succ]
          refine takeH_on 6 (some 68) (.string ⟨(P.take ej).toArray⟩) rfl rfl (by kernel_rfl) (by kernel_rfl) (by kernel_rfl) (fun _ _ _ h => h) (by rfl) (fun W hW => by go_simp) hHeld ?_
          simp only [Act.put, List.setIfInBounds_toArray, List.set_cons_zero, List.set_cons_succ]
          refine wpAnyH_ready (rs := [7, 11]) (by kernel_rfl) (by simp) ?_
          refine AllReadyH.cons rfl (fun K hK => ?_) (AllReadyH.cons rfl (fun K hK => ?_) AllReadyH.nil)
          · go_simp
            refine (HLK.out _ hHeld).mono ?_
            rintro e w7 ⟨rfl, hb7⟩
            have hS7 := hHeld.trans (hb7.mono hHeld.size)
            go_wp2_with fail
            refine hK.out _ _ hS7 (fun hH7 => ?_)
            clear hK K
            refine takeH_on 8 (some 61) (.tuple #[.agg #[.string ⟨q.toArray⟩, .int .i64 kd, .string ⟨d.toArray⟩], .bool true]) rfl rfl (by kernel_rfl) (by kernel_rfl) (by kernel_rfl) (fun _ _ _ h => h) (by rfl) (fun W hW => by go_simp) hH7 ?_
            simp only [Act.put, List.setIfInBounds_toArray, List.set_cons_zero, List.set_cons_succ]
            refine takeH_on 9 (some 70) (.agg #[.string ⟨q.toArray⟩, .int .i64 kd, .string ⟨d.toArray⟩]) rfl rfl (by kernel_rfl) (by kernel_rfl) (by kernel_rfl) (fun _ _ _ h => h) (by rfl) (fun W hW => by go_simp) hH7 ?_
            simp only [Act.put, List.setIfInBounds_toArray, List.set_cons_zero, List.set_cons_succ]
            refine takeH_on 10 (some 71) (.bool true) rfl rfl (by kernel_rfl) (by kernel_rfl) (by kernel_rfl) (fun _ _ _ h => h) (by rfl) (fun W hW => by go_simp) hH7 ?_
            simp only [Act.put, List.setIfInBounds_toArray, List.set_cons_zero, List.set_cons_succ]
            refine wpAnyH_ready (rs := [11]) (by kernel_rfl) (by simp) ?_
            refine AllReadyH.cons rfl (fun K hK => ?_) AllReadyH.nil
            go_simp
            refine hK.out _ _ (hH7.alloc hH7.size _) (fun hH8 => ?_)
            clear hK K
            try simp only [Act.put, List.setIfInBounds_toArray, List.set_cons_zero, List.set_cons_succ]
            refine wpAnyH_ready (rs := [12]) (by kernel_rfl) (by simp) ?_
            refine AllReadyH.cons rfl (fun K hK => ?_) AllReadyH.nil
            go_simp
            refine hK.out _ _ (hH7.alloc hH7.size _) (fun hH9 => ?_)
            clear hK K
            refine takeH_on 13 (some 15) (.bool true) rfl rfl (by kernel_rfl) (by kernel_rfl) (by kernel_rfl) (fun _ _ _ h => h) (by rfl) (fun W hW => by go_simp) hH9 ?_
            simp only [Act.put, List.setIfInBounds_toArray, List.set_cons_zero, List.set_cons_succ]
            refine wpAnyH_done (by kernel_rfl) ?_ _
            have HBX := Lib.hid (Box.new w7 35 (ndC ⟨q, kd, d⟩))
            obtain ⟨W9, hW9⟩ : ∃ W, w7.alloc (.cells #[.string ⟨q.toArray⟩, .int .i64 kd, .string ⟨d.toArray⟩] 35) = W := ⟨_, rfl⟩
            have hbx : Box W9 w7.heap.size 35 (ndC ⟨q, kd, d⟩) := by rw [← hW9]; exact HBX.out
            rw [hW9] at hH9 ⊢
            clear hW9 HBX hH8 hS7 hHeld hH7 hb7
            generalize w7.heap.size = nb at *
            have n1 : W9.cell? ⟨nb, 1, none⟩ = some (.int .i64 kd) := by rw [hbx.cell]; rfl
            have n0 : W9.cell? ⟨nb, 0, none⟩ = some (.string ⟨q.toArray⟩) := by rw [hbx.cell]; rfl
            have HS9 := Lib.hid (HSR.out.below hB hH9)
            replace q1 := cellKeep hH9 q1
            replace q4 := cellKeep hH9 q4
            have r1 : W9.cell? ⟨b, 0, none⟩ = some (.slice (some ⟨g, 0, none⟩) (i + 1) cap) := by rw [HS9.out.way.cell]; rfl
            obtain ⟨r2, r3⟩ := HE.out W9 HS9.out.own
            have r4 : g ≠ nb := fun e => (HS9.out.own.notBox hbx (by decide)) (by rw [e]; rfl)
            clear hH9 hbx q2 q3
            go_wp2_with fail
            have HF9 := Lib.hid (HFIN.out hk3 W9 HS9.out)
            clear HFIN
            go_region
            go_wp2_with fail
            go_quiet (fail)
            go_wp2_with fail
            go_ret2
            exact HF9.out.ext hB (below_dr (ext_drew _ 1) _)
          · go_simp
            refine hK.out _ _ (hHeld.alloc hHeld.size _) (fun hH8 => ?_)
            clear hK K
            try simp only [Act.put, List.setIfInBounds_toArray, List.set_cons_zero, List.set_cons_succ]
            refine wpAnyH_ready (rs := [7]) (by kernel_rfl) (by simp) ?_
            refine AllReadyH.cons rfl (fun K hK => ?_) AllReadyH.nil
            go_simp
            refine (HLK.out _ hH8).mono ?_
            rintro e w7 ⟨rfl, hb7⟩
            have hS7 := hH8.trans (hb7.mono hH8.size)
            go_wp2_with fail
            refine hK.out _ _ hS7 (fun hH7 => ?_)
            clear hK K
            refine takeH_on 8 (some 61) (.tuple #[.agg #[.string ⟨q.toArray⟩, .int .i64 kd, .string ⟨d.toArray⟩], .bool true]) rfl rfl (by kernel_rfl) (by kernel_rfl) (by kernel_rfl) (fun _ _ _ h => h) (by rfl) (fun W hW => by go_simp) hH7 ?_
            simp only [Act.put, List.setIfInBounds_toArray, List.set_cons_zero, List.set_cons_succ]
            refine takeH_on 9 (some 70) (.agg #[.string ⟨q.toArray⟩, .int .i64 kd, .string ⟨d.toArray⟩]) rfl rfl (by kernel_rfl) (by kernel_rfl) (by kernel_rfl) (fun _ _ _ h => h) (by rfl) (fun W hW => by go_simp) hH7 ?_
            simp only [Act.put, List.setIfInBounds_toArray, List.set_cons_zero, List.set_cons_succ]
            refine takeH_on 10 (some 71) (.bool true) rfl rfl (by kernel_rfl) (by kernel_rfl) (by kernel_rfl) (fun _ _ _ h => h) (by rfl) (fun W hW => by go_simp) hH7 ?_
            simp only [Act.put, List.setIfInBounds_toArray, List.set_cons_zero, List.set_cons_succ]
            have hb8 : Box w7 wr.heap.size 35 (ndC nd0) := (Box.new wr.drew 35 (ndC nd0)).below hb7 (Box.new wr.drew 35 (ndC nd0)).lt
            obtain ⟨t1, t2, t3, t4, t5⟩ := box_chain hb8
            have HB5 := Lib.hid t5
            have u0 : w7.cell? ⟨wr.heap.size, 0, none⟩ = some (.string ⟨#[]⟩) := (by rw [hb8.cell]; rfl)
            have u1 : w7.cell? ⟨wr.heap.size, 1, none⟩ = some (.int .i64 0) := (by rw [hb8.cell]; rfl)
            have u2 : w7.cell? ⟨wr.heap.size, 2, none⟩ = some (.string ⟨#[]⟩) := (by rw [hb8.cell]; rfl)
            have u3 : w7.frozen? ⟨wr.heap.size, 0, none⟩ = false := hb8.frozen 0
            clear t5
            refine wpAnyH_ready (rs := [12]) (by kernel_rfl) (by simp) ?_
            refine AllReadyH.cons rfl (fun K hK => ?_) AllReadyH.nil
            go_simp
            have hH9 := ((hH7.setCell (p := ⟨wr.heap.size, 0, none⟩) (Nat.le_refl _) (.string ⟨q.toArray⟩)).setCell (p := ⟨wr.heap.size, 1, none⟩) (Nat.le_refl _) (.int .i64 kd)).setCell (p := ⟨wr.heap.size, 2, none⟩) (Nat.le_refl _) (.string ⟨d.toArray⟩)
            refine hK.out _ _ hH9 (fun _ => ?_)
            clear hK K
            refine takeH_on 13 (some 15) (.bool true) rfl rfl (by kernel_rfl) (by kernel_rfl) (by kernel_rfl) (fun _ _ _ h => h) (by rfl) (fun W hW => by go_simp) hH9 ?_
            simp only [Act.put, List.setIfInBounds_toArray, List.set_cons_zero, List.set_cons_succ]
            refine wpAnyH_done (by kernel_rfl) ?_ _
            have HBX := Lib.hid (HB5.out (.string ⟨q.toArray⟩) (.int .i64 kd) (.string ⟨d.toArray⟩))
            obtain ⟨W9, hW9⟩ : ∃ W, ((w7.setCell ⟨wr.heap.size, 0, none⟩ (.string ⟨q.toArray⟩)).setCell ⟨wr.heap.size, 1, none⟩ (.int .i64 kd)).setCell ⟨wr.heap.size, 2, none⟩ (.string ⟨d.toArray⟩) = W := ⟨_, rfl⟩
            have hbx : Box W9 wr.heap.size 35 (ndC ⟨q, kd, d⟩) := by rw [← hW9]; exact HBX.out
            rw [hW9] at hH9 ⊢
            clear hW9 HBX hH8 hS7 hHeld hH7 hb7 hb8 u0 u1 u2 u3 t1 t2 t3 t4 HB5
            obtain ⟨nb, hnb⟩ : ∃ nb, wr.heap.size = nb := ⟨_, rfl⟩
            rw [hnb] at hbx ⊢
            clear hnb
            have n1 : W9.cell? ⟨nb, 1, none⟩ = some (.int .i64 kd) := by rw [hbx.cell]; rfl
            have n0 : W9.cell? ⟨nb, 0, none⟩ = some (.string ⟨q.toArray⟩) := by rw [hbx.cell]; rfl
            have HS9 := Lib.hid (HSR.out.below hB hH9)
            replace q1 := cellKeep hH9 q1
            replace q4 := cellKeep hH9 q4
            have r1 : W9.cell? ⟨b, 0, none⟩ = some (.slice (some ⟨g, 0, none⟩) (i + 1) cap) := by rw [HS9.out.way.cell]; rfl
            obtain ⟨r2, r3⟩ := HE.out W9 HS9.out.own
            have r4 : g ≠ nb := fun e => (HS9.out.own.notBox hbx (by decide)) (by rw [e]; rfl)
            clear hH9 hbx q2 q3
            go_wp2_with fail
            have HF9 := Lib.hid (HFIN.out hk3 W9 HS9.out)
            clear HFIN
            go_region
            go_wp2_with fail
            go_quiet (fail)
            go_wp2_with fail
            go_ret2
            exact HF9.out.ext hB (below_dr (ext_drew _ 1) _)
end Go.Proofs.YtedfgikikjggaaaDoor
