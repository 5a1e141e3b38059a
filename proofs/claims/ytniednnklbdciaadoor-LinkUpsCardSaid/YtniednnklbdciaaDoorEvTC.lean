/- The evaluator: a loop over nodes, in whatever order: all rounds. -/
import Derived.Test.YtniednnklbdciaaDoorEvTB
set_option linter.unusedVariables false
set_option linter.unusedSectionVars false
set_option linter.unusedSimpArgs false
namespace Go.Ev
open Go.RowKit
open Go.ChangeMaps (setBlock)
variable {P : Program}

section
variable {N keep fuel : Nat} {p : NewParts} {ms : Array MapEntry} {clock cbm ir bt cbt n2 : Nat} {β0 : Bt} {w0 : World} {ds : List Deferred}
theorem leftOf_mem {es : Array MapEntry} {seen : List Nat} {e : MapEntry} : e ∈ (leftOf es seen.toArray).toList ↔ e ∈ es.toList ∧ e.born ∉ seen := by
  unfold leftOf
  simp
/-- The rounds of a loop over nodes. -/
theorem loop_ok [Sl] (cx : Cx P N keep p ms clock cbm ir bt cbt n2 β0 w0) (hms : ms.size < 100000) {k : Hp → Ans} : ∀ (m i : Nat) (h : Hp), loopK P N keep fuel p bt n2 m i h k = .yes → i + m = ms.size → ∀ (vs : List MapEntry) (β : Bt) (a : Act) (w : World), vs.length = i →
    LInv ms clock cbm ir bt cbt n2 β0 w0 N ds vs β h a w → ∀ Q : Exit → Act → World → Prop, (∀ h' vs' β' a' w', k h' = .yes → vs'.length = ms.size → LInv ms clock cbm ir bt cbt n2 β0 w0 N ds vs' β' h' a' w' → Q .normal a' w') →
    Code.rounds P p.loopC (Exit.inBlock p.b2 Q) (m + 1) a w := by
  intro m
  induction m with
  | zero =>
    intro i h H him vs β a w hvs li Q hQ
    replace H : k h = .yes := H
    letI sg : Sg := sgOf ir vs
    obtain ⟨x, y, hops, hx1, hx2, hx3, hy1, hy2, hy3⟩ := cx.o14
    obtain ⟨last, hlast, hit⟩ := li.iter
    have hmap : w.heap[cbm]? = some (.map ms clock) := by
      rw [li.block cbm (Array.getElem?_eq_some_iff.1 cx.map).1 cx.ne1 cx.ne2]; exact cx.map
    show p.loopC.wp P _ a w
    unfold NewParts.loopC
    refine wp_seq (wp_region_list ?_)
    rw [hops]
    show if _ then _ else _
    rw [if_pos (wanted_none hx3 _ _)]
    left
    unfold Oper.wp
    rcases run_next_at (P := P) w x.type ir cbm clock last (vs.map (·.born)).toArray ms clock hit hmap cx.born hlast with ⟨-, hrun⟩ | ⟨e, he, -⟩
    · have hr1 : (execOp a.eval x).run P w = .ok (.value (.tuple #[.bool false])) w := by
        unfold execOp
        rw [hx1]
        show (do Pure.pure (Next.value (← Instr.next (a.tmps.getD 60 undef) false x.type))).run P w = _
        rw [li.t60, Sem.run_bind, hrun]; rfl
      rw [hr1]
      show wpList P p.ops14 _ [y] (a.put x.dst (.tuple #[.bool false])) w
      rw [hx2]
      show if _ then _ else _
      rw [if_pos (wanted_none hy3 _ _)]
      left
      unfold Oper.wp
      have h61 : 61 < a.tmps.size := Nat.lt_of_lt_of_le (by omega) (Nat.le_trans cx.n li.sz)
      have hr2 : (execOp (a.put (some 61) (.tuple #[.bool false])).eval y).run P w = .ok (.value (.bool false)) w := by
        unfold execOp
        rw [hy1]
        show (do Pure.pure (Next.value (← Instr.extract ((a.put (some 61) (.tuple #[.bool false])).tmps.getD 61 undef) 0))).run P w = _
        rw [getD_put h61]; rfl
      rw [hr2]
      show (Code.seq _ _).wp P _ ((a.put (some 61) (.tuple #[.bool false])).put y.dst (.bool false)) w
      rw [hy2]
      have h62 : 62 < (a.put (some 61) (.tuple #[.bool false])).tmps.size := by rw [put_size]; exact Nat.lt_of_lt_of_le (by omega) (Nat.le_trans cx.n li.sz)
      refine wp_seq (wp_cond (t := false) (getD_put h62) (wp_exit ?_))
      show Exit.inBlock p.b2 Q (.exit p.b2) _ _
      unfold Exit.inBlock
      dsimp only
      rw [if_pos rfl]
      refine hQ h vs β _ w H (by omega) { li with t4 := ?_, t60 := ?_, sz := by rw [put_size, put_size]; exact li.sz, dfr := by rw [put_defers, put_defers]; exact li.dfr }
      · rw [getD_put_ne (by decide), getD_put_ne (by decide)]; exact li.t4
      · rw [getD_put_ne (by decide), getD_put_ne (by decide)]; exact li.t60
    · exfalso
      rw [leftOf_mem] at he
      have := List.Nodup.length_le_of_subset (l₁ := (e.born :: vs.map (·.born))) (l₂ := ms.toList.map (·.born)) (List.nodup_cons.2 ⟨he.2, li.nod⟩) (fun z hz => by
        rcases List.mem_cons.1 hz with rfl | hz
        · exact List.mem_map.2 ⟨e, he.1, rfl⟩
        · obtain ⟨q, hq, rfl⟩ := List.mem_map.1 hz
          exact List.mem_map.2 ⟨q, li.sub q hq, rfl⟩)
      simp at this
      omega
  | succ m ih =>
    intro i h H him vs β a w hvs li Q hQ
    replace H : envSK bt (fun env => roundK P N keep fuel p bt n2 i env h fun h' => fNat (Nat.succ i) fun i' => loopK P N keep fuel p bt n2 m i' h' k) = .yes := H
    rw [envSK_eq] at H
    letI sg : Sg := sgOf ir vs
    obtain ⟨x, y, hops, hx1, hx2, hx3, hy1, hy2, hy3⟩ := cx.o14
    obtain ⟨last, hlast, hit⟩ := li.iter
    have hmap : w.heap[cbm]? = some (.map ms clock) := by
      rw [li.block cbm (Array.getElem?_eq_some_iff.1 cx.map).1 cx.ne1 cx.ne2]; exact cx.map
    show p.loopC.wp P _ a w
    unfold NewParts.loopC
    refine wp_seq (wp_region_list ?_)
    rw [hops]
    show if _ then _ else _
    rw [if_pos (wanted_none hx3 _ _)]
    left
    unfold Oper.wp
    have h61 : 61 < a.tmps.size := Nat.lt_of_lt_of_le (by omega) (Nat.le_trans cx.n li.sz)
    rcases run_next_at (P := P) w x.type ir cbm clock last (vs.map (·.born)).toArray ms clock hit hmap cx.born hlast with ⟨h0, -⟩ | ⟨e, he, w', hw', hrun⟩
    · exfalso
      have hall : ∀ z ∈ ms.toList.map (·.born), z ∈ vs.map (·.born) := fun z hz => by
        obtain ⟨q, hq, rfl⟩ := List.mem_map.1 hz
        refine Classical.byContradiction fun hn => ?_
        have : q ∈ (leftOf ms (vs.map (·.born)).toArray).toList := leftOf_mem.2 ⟨hq, hn⟩
        rw [Array.eq_empty_of_size_eq_zero h0] at this
        cases this
      have := List.Nodup.length_le_of_subset cx.nod hall
      simp at this
      omega
    · have hr1 : (execOp a.eval x).run P w = .ok (.value (.tuple #[.bool true, e.key, e.val])) (setBlock w' ir (.mapIter (some cbm) clock ((vs.map (·.born)).toArray.push e.born) clock)) := by
        unfold execOp
        rw [hx1]
        show (do Pure.pure (Next.value (← Instr.next (a.tmps.getD 60 undef) false x.type))).run P w = _
        rw [li.t60, Sem.run_bind, hrun]; rfl
      rw [hr1]
      generalize hw1 : setBlock w' ir (.mapIter (some cbm) clock ((vs.map (·.born)).toArray.push e.born) clock) = w1
      have hheap : w'.heap = w.heap := by rcases hw' with rfl | rfl <;> rfl
      have hoth : ∀ c, c ≠ ir → w1.heap[c]? = w.heap[c]? := fun c hc => by
        rw [← hw1]
        show (w'.heap.setIfInBounds ir _)[c]? = _
        rw [Array.getElem?_setIfInBounds, if_neg (fun h => hc h.symm), hheap]
      have hirl : ir < w.heap.size := Nat.lt_of_lt_of_le cx.irlt li.size
      have hir : w1.heap[ir]? = some (.mapIter (some cbm) clock ((vs.map (·.born)).toArray.push e.born) clock) := by
        rw [← hw1]
        show (w'.heap.setIfInBounds ir _)[ir]? = _
        rw [hheap, Array.getElem?_setIfInBounds, if_pos rfl, if_pos hirl]
      have hsz1 : w1.heap.size = w.heap.size := by
        rw [← hw1]
        show (w'.heap.setIfInBounds ir _).size = _
        rw [Array.size_setIfInBounds, hheap]
      have h3 : w1.os = w.os ∧ w1.tape = w.tape ∧ w1.output = w.output := by
        rw [← hw1]
        rcases hw' with rfl | rfl <;> exact ⟨rfl, rfl, rfl⟩
      show wpList P p.ops14 _ [y] (a.put x.dst (.tuple #[.bool true, e.key, e.val])) w1
      rw [hx2]
      show if _ then _ else _
      rw [if_pos (wanted_none hy3 _ _)]
      left
      unfold Oper.wp
      have hr2 : (execOp (a.put (some 61) (.tuple #[.bool true, e.key, e.val])).eval y).run P w1 = .ok (.value (.bool true)) w1 := by
        unfold execOp
        rw [hy1]
        show (do Pure.pure (Next.value (← Instr.extract ((a.put (some 61) (.tuple #[.bool true, e.key, e.val])).tmps.getD 61 undef) 0))).run P w1 = _
        rw [getD_put h61]; rfl
      rw [hr2]
      show (Code.seq _ _).wp P _ ((a.put (some 61) (.tuple #[.bool true, e.key, e.val])).put y.dst (.bool true)) w1
      rw [hy2]
      have h62 : 62 < (a.put (some 61) (.tuple #[.bool true, e.key, e.val])).tmps.size := by rw [put_size]; exact Nat.lt_of_lt_of_le (by omega) (Nat.le_trans cx.n li.sz)
      refine wp_seq (wp_cond (t := true) (getD_put h62) (wp_skip ?_))
      show (Code.block _ _).wp P _ _ w1
      rw [leftOf_mem] at he
      obtain ⟨κ0, hbt⟩ := cx.at_
      have li1 : LInv ms clock cbm ir bt cbt n2 β0 w0 N ds (vs ++ [e]) β h ((a.put (some 61) (.tuple #[.bool true, e.key, e.val])).put (some 62) (.bool true)) w1 := by
        refine ⟨@HR.same (sgOf ir (vs ++ [e])) β h w w1 (HR.sg (sgOf_le ir vs e) li.hr) fun b z c κ hb hc => hoth c fun hcir => ?_, li.dom, li.nx, li.lo, li.old, li.new, h3.1.trans li.os, h3.2.1.trans li.tape, h3.2.2.trans li.output, by rw [hsz1]; exact li.size, fun c hc h1 h2 => (hoth c h2).trans (li.block c hc h1 h2), ?_, ?_, by rw [put_size, put_size]; exact li.sz, by rw [put_defers, put_defers]; exact li.dfr, ⟨clock, Nat.le_refl _, by rw [hir]; simp⟩, fun z hz => ?_, ?_⟩
        · rcases li.dom b z hb with rfl | hge
          · rw [li.old b cx.lt, hbt] at hc; injection hc with hc; injection hc with hc _; exact cx.ne3 (hcir.symm.trans hc.symm)
          · rcases li.new b c κ hge hc with h | h
            · have := cx.irlt; omega
            · exact cx.ne3 (hcir.symm.trans h)
        · rw [getD_put_ne (by decide), getD_put_ne (by decide)]; exact li.t4
        · rw [getD_put_ne (by decide), getD_put_ne (by decide)]; exact li.t60
        · rcases List.mem_append.1 hz with hz | hz
          · exact li.sub z hz
          · rw [List.mem_singleton.1 hz]; exact he.1
        · rw [List.map_append, List.nodup_append]
          refine ⟨li.nod, by simp, fun q hq q' hq' e' => ?_⟩
          simp at hq'
          subst hq'
          subst e'
          exact he.2 hq
      obtain ⟨h', H', hbody⟩ := body_ok cx H hvs (by omega) li1 hir
      rw [fNat_eq] at H'
      refine hbody _ fun β' a' w' li' => ?_
      show Code.rounds P p.loopC (Exit.inBlock p.b2 Q) (m + 1) a' w'
      exact ih (i + 1) h' H' (by omega) (vs ++ [e]) β' a' w' (by simp; omega) li' Q hQ
end
end Go.Ev
