/- The contract of (*ref15.Tree).Look. -/
import Derived.Test.YtedfgikikjggaaaDoorTreeB
import Derived.Test.YtedfgikikjggaaaDoorQuiet
import Derived.Laws.ResultCell
import Derived.IntWalk
set_option linter.unusedVariables false
set_option linter.unusedSimpArgs false
namespace Go.Proofs.YtedfgikikjggaaaDoor
open Go.RowKit

theorem at_get {ns : List Nd} {j : Nat} (hj : j < ns.length) : ndAt ns j = ns[j] := by unfold ndAt; rw [List.getD_eq_getElem?_getD, List.getElem?_eq_getElem hj]; rfl
theorem rising_lt {ns : List Nd} (hr : Rising ns) {i j : Nat} (hij : i < j) (hj : j < ns.length) : ltS (ndAt ns i).p (ndAt ns j).p = true := by
  rw [at_get hj, at_get (by omega)]
  exact List.pairwise_iff_getElem.1 hr i j (by omega) hj hij
theorem mem_at {ns : List Nd} {n : Nd} (h : n ∈ ns) : ∃ j, j < ns.length ∧ ndAt ns j = n := by
  obtain ⟨j, hj, e⟩ := List.getElem_of_mem h
  exact ⟨j, hj, by rw [at_get hj, e]⟩
theorem look_found {ns : List Nd} (hr : Rising ns) {lo : Nat} {p : Bts} (hl : lo < ns.length) (he : (ndAt ns lo).p = p) : lookN ns p = some (ndAt ns lo) := by
  have := lookN_mem hr (ndAt_mem hl)
  rw [he] at this; exact this
theorem look_missed {ns : List Nd} (hr : Rising ns) {lo : Nat} {p : Bts} (h1 : ∀ j, j < lo → ltS (ndAt ns j).p p = true) (h2 : ∀ j, lo ≤ j → j < ns.length → ltS (ndAt ns j).p p = false) (hne : lo < ns.length → (ndAt ns lo).p ≠ p) : lookN ns p = none := by
  cases hl : lookN ns p with
  | none => rfl
  | some m =>
    obtain ⟨hm, hp⟩ := lookN_some hl
    obtain ⟨j, hj, rfl⟩ := mem_at hm
    rcases Nat.lt_or_ge j lo with h | h
    · have := h1 j h; rw [hp, ltS_irrefl] at this; cases this
    · rcases Nat.lt_or_ge lo j with h3 | h3
      · have h4 := rising_lt hr h3 hj
        have h5 := h2 lo (Nat.le_refl _) (by omega)
        rw [hp] at h4
        rw [h4] at h5; cases h5
      · obtain rfl : j = lo := by omega
        exact absurd hp (hne hj)
theorem box_chain {W : World} {b : Nat} {x : Nd} (h : Box W b 35 (ndC x)) :
    (∀ v, (W.setCell ⟨b, 0, none⟩ v).cell? ⟨b, 1, none⟩ = some (.int .i64 x.k)) ∧ (∀ v, (W.setCell ⟨b, 0, none⟩ v).frozen? ⟨b, 1, none⟩ = false) ∧
    (∀ v v', ((W.setCell ⟨b, 0, none⟩ v).setCell ⟨b, 1, none⟩ v').cell? ⟨b, 2, none⟩ = some (.string ⟨x.d.toArray⟩)) ∧ (∀ v v', ((W.setCell ⟨b, 0, none⟩ v).setCell ⟨b, 1, none⟩ v').frozen? ⟨b, 2, none⟩ = false) ∧
    (∀ v v' v'', Box (((W.setCell ⟨b, 0, none⟩ v).setCell ⟨b, 1, none⟩ v').setCell ⟨b, 2, none⟩ v'') b 35 [v, v', v'']) := by
  have s1 := fun v => h.set 0 (by simp [ndC]) v
  have s2 := fun v v' => (s1 v).set 1 (by simp [ndC]) v'
  have s3 := fun v v' v'' => (s2 v v').set 2 (by simp [ndC]) v''
  exact ⟨fun v => by rw [(s1 v).cell]; rfl, fun v => (s1 v).frozen 1, fun v v' => by rw [(s2 v v').cell]; rfl, fun v v' => (s2 v v').frozen 2, fun v v' v'' => s3 v v' v''⟩
set_option maxRecDepth 100000 in
set_option maxHeartbeats 8000000 in
theorem rLook_any (t : Nat) (sl x : Value) (ns : List Nd) (p : Bts) (w : World) (hb : Box w t 33 [sl, x]) (hs : IsNds w sl ns) (hr : Rising ns) (hp : p.length ≤ 1000000) (hl : ns.length ≤ 1000000) :
    Calls Tryd.prog 27 #[.pointer (some ⟨t, 0, none⟩), .string ⟨p.toArray⟩] w fun e w' => e = .returned (.tuple #[ndV ((lookN ns p).getD nd0), .bool (lookN ns p).isSome]) ∧ Below w.heap.size w w' := by
  have HS := Lib.hid hs
  have HB := Lib.hid hb
  have HR := Lib.hid hr
  obtain ⟨a, cap, rfl, a1, a2, -, a3⟩ := hs
  unfold maxLen at a2
  have HBL : Hid (∀ n, Below w.heap.size w ((w.alloc (.cells (ndC nd0).toArray 35)).drewN n)) := Lib.hid (fun n => below_dr (ext_alloc _ _) n)
  have k0 : ∀ o n, ((w.alloc o).drewN n).cell? ⟨t, 0, none⟩ = some (.slice a ns.length cap) := fun o n => by rw [((HB.out.alloc o).drew n).cell]; rfl
  have k1 : ∀ o, (w.alloc o).cell? ⟨t, 0, none⟩ = some (.slice a ns.length cap) := fun o => k0 o 0
  clear hb hr
  go_enter Tryd.func27, Tryd.ntmps27
  go_wp2_with fail
  go_quiet (fail)
  go_wp2_with fail
  go_loopw [6, 7] (fun tl th wr => ∃ lo hi : Nat, lo ≤ hi ∧ hi ≤ ns.length ∧ tl = .int .i64 lo ∧ th = .int .i64 hi ∧ Hid (∀ j, j < lo → ltS (ndAt ns j).p p = true) ∧ Hid (∀ j, hi ≤ j → j < ns.length → ltS (ndAt ns j).p p = false) ∧ ∃ m, wr = (w.alloc (.cells (ndC nd0).toArray 35)).drewN m) (fun tl th _ => (intOf th).toNat - (intOf tl).toNat)
  case atStart => exact ⟨0, ns.length, Nat.zero_le _, Nat.le_refl _, rfl, rfl, Lib.hid (fun j hj => by omega), Lib.hid (fun j h1 h2 => by omega), _, rfl⟩
  case round =>
    obtain ⟨lo, hi, h1, h2, rfl, rfl, HL, HH, m, rfl⟩ := hrel
    have HBX : Hid (Box ((w.alloc (.cells (ndC nd0).toArray 35)).drewN m) w.heap.size 35 (ndC nd0)) := Lib.hid ((Box.new w 35 (ndC nd0)).drew m)
    have HBS : Hid (∀ v v' v'', Below w.heap.size w (((((w.alloc (.cells (ndC nd0).toArray 35)).drewN m).setCell ⟨w.heap.size, 0, none⟩ v).setCell ⟨w.heap.size, 1, none⟩ v').setCell ⟨w.heap.size, 2, none⟩ v'')) := Lib.hid (fun v v' v'' => (((HBL.out m).setCell (Nat.le_refl _) v).setCell (Nat.le_refl _) v').setCell (Nat.le_refl _) v'')
    by_cases hlt : lo < hi
    · have hltI : (lo : Int) < (hi : Int) := by omega
      obtain ⟨g, off, rfl, hc⟩ := a3 (by omega)
      obtain ⟨mid, hmid⟩ : ∃ mid, (lo + hi) / 2 = mid := ⟨_, rfl⟩
      have hm1 : mid < ns.length := by omega
      have hm2 : lo ≤ mid := by omega
      have hm3 : mid < hi := by omega
      have hq : ((lo : Int) + (hi : Int)).tdiv 2 = (mid : Int) := by
        rw [← hmid, ← Int.natCast_add]; rfl
      have hmI : (mid : Int) < (ns.length : Int) := by omega
      obtain ⟨c0, -, -⟩ := (hc.below (HBL.out m)) mid hm1
      cases hls : ltS (ndAt ns mid).p p with
      | true =>
        have hbl : Op.bytesLess (ndAt ns mid).p p = true := hls
        have HL2 : Hid (∀ j, j < mid + 1 → ltS (ndAt ns j).p p = true) := Lib.hid (fun j hj => by
          rcases Nat.lt_or_ge j mid with h | h
          · exact ltS_trans (rising_lt HR.out h hm1) hls
          · obtain rfl : j = mid := by omega
            exact hls)
        generalize (ndAt ns mid).p = q at c0 hbl
        clear hc a3 HL hls hmid
        go_wp2_with fail
        exact ⟨⟨mid + 1, hi, by omega, h2, by go_num, rfl, HL2, HH, _, rfl⟩, by simp [intOf]; omega⟩
      | false =>
        have hbl : Op.bytesLess (ndAt ns mid).p p = false := hls
        have HH2 : Hid (∀ j, mid ≤ j → j < ns.length → ltS (ndAt ns j).p p = false) := Lib.hid (fun j hj hjl => by
          rcases Nat.lt_or_ge mid j with h | h
          · cases h3 : ltS (ndAt ns j).p p with
            | false => rfl
            | true => have := ltS_trans (rising_lt HR.out h hjl) h3; rw [this] at hls; cases hls
          · obtain rfl : j = mid := by omega
            exact hls)
        generalize (ndAt ns mid).p = q at c0 hbl
        clear hc a3 HH hls hmid
        go_wp2_with fail
        exact ⟨⟨lo, mid, by omega, by omega, rfl, rfl, HL, HH2, _, rfl⟩, by simp [intOf]; omega⟩
    · obtain rfl : lo = hi := by omega
      by_cases hll : lo < ns.length
      · have hllI : (lo : Int) < (ns.length : Int) := by omega
        obtain ⟨g, off, rfl, hc⟩ := a3 (by omega)
        obtain ⟨c0, c1, c2⟩ := (hc.below (HBL.out m)) lo hll
        by_cases he : (ndAt ns lo).p = p
        · have HF : Hid ((lookN ns p).getD nd0 = ndAt ns lo ∧ (lookN ns p).isSome = true) := Lib.hid (by rw [look_found HR.out hll he]; exact ⟨rfl, rfl⟩)
          have e1 : ((ndAt ns lo).p == p) = true := by rw [he]; exact beq_self_eq_true _
          generalize ndAt ns lo = nd at *
          clear hc a3 HL HH he
          obtain ⟨t1, t2, t3, t4, t5⟩ := box_chain HBX.out
          have HB5 := Lib.hid t5
          clear t5
          go_wp2_with fail
          simp only [Result.andThen_ok, t1, t2, t3, t4, Bool.false_eq_true, if_false]
          go_wp2_with fail
          refine bodyPost_ret (results_nd_tmp (n := nd) rfl _ rfl (HB5.out _ _ _)) rfl ?_
          exact ⟨tupNB HF.out.1.symm HF.out.2.symm, HBS.out _ _ _⟩
        · have HF : Hid ((lookN ns p).getD nd0 = nd0 ∧ (lookN ns p).isSome = false) := Lib.hid (by rw [look_missed HR.out HL.out HH.out (fun _ => he)]; exact ⟨rfl, rfl⟩)
          have e1 : ((ndAt ns lo).p == p) = false := by rw [beq_eq_false_iff_ne]; exact he
          generalize (ndAt ns lo).p = q at c0 e1
          clear hc a3 HL HH he c1 c2
          obtain ⟨t1, t2, t3, t4, t5⟩ := box_chain HBX.out
          have HB5 := Lib.hid t5
          clear t5
          go_wp2_with fail
          simp only [Result.andThen_ok, t1, t2, t3, t4, Bool.false_eq_true, if_false]
          go_wp2_with fail
          refine bodyPost_ret (results_nd_tmp (n := nd0) rfl _ rfl (HB5.out _ _ _)) rfl ?_
          exact ⟨tupNB HF.out.1.symm HF.out.2.symm, HBS.out _ _ _⟩
      · have HF : Hid ((lookN ns p).getD nd0 = nd0 ∧ (lookN ns p).isSome = false) := Lib.hid (by rw [look_missed HR.out HL.out HH.out (fun h => absurd h hll)]; exact ⟨rfl, rfl⟩)
        have hllI : ¬ (lo : Int) < (ns.length : Int) := by omega
        clear a3 HL HH
        obtain ⟨t1, t2, t3, t4, t5⟩ := box_chain HBX.out
        have HB5 := Lib.hid t5
        clear t5
        go_wp2_with fail
        simp only [Result.andThen_ok, t1, t2, t3, t4, Bool.false_eq_true, if_false]
        go_wp2_with fail
        refine bodyPost_ret (results_nd_tmp (n := nd0) rfl _ rfl (HB5.out _ _ _)) rfl ?_
        exact ⟨tupNB HF.out.1.symm HF.out.2.symm, HBS.out _ _ _⟩
end Go.Proofs.YtedfgikikjggaaaDoor
