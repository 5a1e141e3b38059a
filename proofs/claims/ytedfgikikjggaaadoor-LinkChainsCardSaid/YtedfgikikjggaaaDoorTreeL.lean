/- The contract of (*tree.Tree).lay. -/
import Derived.Test.YtedfgikikjggaaaDoorNdsS
import Derived.Test.YtedfgikikjggaaaDoorTreeA
import Derived.Test.YtedfgikikjggaaaDoorMb1
import Derived.Maps.AppendAt
set_option linter.unusedVariables false
set_option linter.unusedSimpArgs false
namespace Go.Proofs.YtedfgikikjggaaaDoor
open Go.RowKit Go.Maps

def kindAt (all : List Nd) (f : Bts) : Int := ((lookN all f).getD nd0).k
def laysOk (all : List Nd) : Prop := ∀ n ∈ all, n.p ≠ [47] → kindAt all (partF n.p) = 2
theorem kindAt_iff {all : List Nd} (h : Rising all) (f : Bts) : kindAt all f = 2 ↔ ∃ m ∈ all, m.p = f ∧ m.k = 2 := by
  unfold kindAt
  constructor
  · intro hk
    cases hl : lookN all f with
    | none => rw [hl] at hk; cases hk
    | some m =>
      rw [hl] at hk
      obtain ⟨h1, h2⟩ := lookN_some hl
      exact ⟨m, h1, h2, hk⟩
  · rintro ⟨m, h1, h2, h3⟩
    have := lookN_mem h h1
    rw [h2] at this
    rw [this]; exact h3
theorem laysOk_good {ns all : List Nd} (h : Whole ns all) (hf : ∀ n ∈ ns, fitN n = true) (hnd : (ns.map (·.p)).Nodup) : laysOk all ↔ Good ns := by
  constructor
  · intro hl
    refine ⟨hf, hnd, fun n hn hp => ?_⟩
    obtain ⟨m, h1, h2, h3⟩ := (kindAt_iff h.1 _).1 (hl n ((h.2 n).2 (.inl hn)) hp)
    exact ⟨m, (h.2 m).1 h1, h2, h3⟩
  · intro hg n hn hp
    rcases (h.2 n).1 hn with h1 | h1
    · obtain ⟨m, h2, h3, h4⟩ := hg.2.2 n h1 hp
      exact (kindAt_iff h.1 _).2 ⟨m, (h.2 m).2 h2, h3, h4⟩
    · rw [h1] at hp; exact absurd rfl hp
/-- Names by folders: each a row of its own, from a block on, no two in one. -/
def NamesOwn (w : World) (B : Nat) (g : Bts → Option Value) (all : List Nd) : Prop :=
  (∀ f, match g f with
    | none => namesIn all f = []
    | some v => Own w B 9 v ((namesIn all f).map strV) ∧ ∃ k, v.ownBlock = some k) ∧
  ∀ f f' v v', f ≠ f' → g f = some v → g f' = some v' → v.ownBlock ≠ v'.ownBlock
theorem NamesOwn.of {w : World} {B : Nat} {g : Bts → Option Value} {all : List Nd} (h : NamesOwn w B g all) : NamesOf w g all := fun f => by
  have h2 := h.1 f
  cases hf : g f with
  | none => rw [hf] at h2; exact h2
  | some v => rw [hf] at h2; exact h2.1.base (Nat.zero_le _)
theorem NamesOwn.below {w w' : World} {B : Nat} {g : Bts → Option Value} {all : List Nd} (h : NamesOwn w B g all) (hb : Below w.heap.size w w') : NamesOwn w' B g all := by
  refine ⟨fun f => ?_, h.2⟩
  have h2 := h.1 f
  cases hf : g f with
  | none => rw [hf] at h2; exact h2
  | some v => rw [hf] at h2; exact ⟨h2.1.below hb, h2.2⟩
theorem namesIn_snoc (l : List Nd) (n : Nd) (f : Bts) : namesIn (l ++ [n]) f = namesIn l f ++ (if !(n.p == [47]) && partF n.p == f then [partN n.p] else []) := by
  unfold namesIn
  rw [List.filter_append, List.map_append]
  congr 1
  cases h : (!(n.p == [47]) && partF n.p == f) <;> simp [List.filter, h]
theorem own_block {w : World} {B : Nat} {e : TypeId} {v : Value} {xs : List Value} (h : Own w B e v xs) (hn : xs ≠ []) : ∃ k, v.ownBlock = some k := by
  rcases h.2 with ⟨-, h1⟩ | ⟨g, cap, cur, rfl, -⟩
  · exact absurd (List.eq_nil_of_length_eq_zero h1) hn
  · exact ⟨g, rfl⟩
theorem NamesOwn.map {w w' : World} {B : Nat} {g : Bts → Option Value} {all : List Nd} {C : Value → Prop} {m n : Nat} {g' : Bts → Option Value} (h : NamesOwn w B g all) (hm : MapS C w m n g') (hg : w.grownBy w' (some m)) : NamesOwn w' B g all := by
  refine ⟨fun f => ?_, h.2⟩
  have h2 := h.1 f
  cases hf : g f with
  | none => rw [hf] at h2; exact h2
  | some v =>
    rw [hf] at h2
    refine ⟨h2.1.kept hg (.inr fun e => ?_), h2.2⟩
    rcases h2.1.2 with ⟨e1, -⟩ | ⟨g2, cp, cur, e1, -, hh, -⟩
    · rw [e1] at e; simp [Value.ownBlock] at e
    · rw [e1] at e
      have e2 : g2 = m := by simpa [Value.ownBlock] using e
      exact hm.ne_cells hh e2.symm
/-- The next name laid. -/
theorem NamesOwn.put {w w' : World} {B : Nat} {g : Bts → Option Value} {l : List Nd} {n : Nd} {v' : Value} (h : NamesOwn w B g l) (hp : n.p ≠ [47])
    (ho : Own w' B 9 v' ((namesIn l (partF n.p)).map strV ++ [strV (partN n.p)])) (hg : w.grownBy w' ((g (partF n.p)).getD (.slice none 0 0)).ownBlock)
    (hv : v'.ownBlock = ((g (partF n.p)).getD (.slice none 0 0)).ownBlock ∨ ∃ k, v'.ownBlock = some k ∧ w.heap.size ≤ k) : NamesOwn w' B (updG g (partF n.p) v') (l ++ [n]) := by
  have e47 : (n.p == [47]) = false := by rw [beq_eq_false_iff_ne]; exact hp
  have hb := own_block ho (by simp)
  refine ⟨fun f => ?_, fun f f' u u' hne hu hu' => ?_⟩
  · rw [namesIn_snoc, e47]
    unfold updG
    by_cases hf : f = partF n.p
    · subst hf
      rw [if_pos rfl]
      simp only [Bool.not_false, Bool.true_and, beq_self_eq_true, if_true, List.map_append, List.map_cons, List.map_nil]
      exact ⟨ho, hb⟩
    · rw [if_neg hf]
      have hf2 : (partF n.p == f) = false := by rw [beq_eq_false_iff_ne]; exact Ne.symm hf
      rw [hf2]
      simp only [Bool.and_false, Bool.false_eq_true, if_false, List.append_nil]
      have h2 := h.1 f
      cases hgf : g f with
      | none => rw [hgf] at h2; exact h2
      | some u =>
        rw [hgf] at h2
        refine ⟨h2.1.kept hg ?_, h2.2⟩
        cases hgn : g (partF n.p) with
        | none => obtain ⟨k, hk⟩ := h2.2; right; rw [hk]; simp [Value.ownBlock]
        | some u2 => right; exact h.2 f (partF n.p) u u2 hf hgf hgn
  · have key : ∀ f u, f ≠ partF n.p → g f = some u → u.ownBlock ≠ v'.ownBlock := fun f u hf hu e => by
      have h2 := h.1 f
      rw [hu] at h2
      obtain ⟨k, hk⟩ := h2.2
      have hlt := (h2.1.row k hk).2
      rcases hv with hv | ⟨k', hk', hle⟩
      · rw [hv] at e
        cases hgn : g (partF n.p) with
        | none => rw [hgn, hk] at e; simp [Value.ownBlock] at e
        | some u2 => rw [hgn] at e; exact h.2 f (partF n.p) u u2 hf hu hgn e
      · rw [hk, hk'] at e; injection e with e; omega
    unfold updG at hu hu'
    by_cases h1 : f = partF n.p
    · rw [if_pos h1] at hu
      rw [if_neg (fun e => hne (h1.trans e.symm))] at hu'
      injection hu with hu; subst hu
      exact fun e => key f' u' (fun e => hne (h1.trans e.symm)) hu' e.symm
    · rw [if_neg h1] at hu
      by_cases h2 : f' = partF n.p
      · rw [if_pos h2] at hu'
        injection hu' with hu'; subst hu'
        exact key f u h1 hu
      · rw [if_neg h2] at hu'
        exact h.2 f f' u u' hne hu hu'
theorem step_appAt {ops : Array Oper} {o : Oper} {a : Act} {K : Act → World → Prop} {Q : Exit → Act → World → Prop} {E : Prop} (w : World)
    (hg : o.guard = none) (s x : Operand) (ho : o.op = .call { callee := .builtin .append, args := #[s, x], argTypes := #[67, 67] })
    (B : Nat) (v : Value) (xs : List Value) (hs : a.eval s = v) (hown : Own w B 9 v xs) (t : Bts) (bk : Nat) (hx : a.eval x = .slice (some ⟨bk, 0, none⟩) 1 1) (hbk : bk = w.heap.size)
    (hlen : xs.length ≤ 10000000) (hB : B ≤ w.heap.size)
    (h : ∀ v' w', Own w' B 9 v' (xs ++ [strV t]) → w.grownBy w' v.ownBlock → (v'.ownBlock = v.ownBlock ∨ ∃ k, v'.ownBlock = some k ∧ w.heap.size ≤ k) → K (a.put o.dst v') w') :
    if Region.wanted o (yielded ops a.tmps) = true then Oper.wp Tryd.prog o a (w.alloc (.cells #[strV t] 9)) K Q else E := by
  have hw : Region.wanted o (yielded ops a.tmps) = true := by simp [Region.wanted, hg]
  rw [if_pos hw]
  subst hbk
  obtain ⟨ht, i, hi, hz, hs1, hby, hzc⟩ := ok16
  have hown2 : (w.alloc (.cells #[strV t] 9)).ownsRow B 9 1 v xs.length xs := World.ownsRow.alloc hown _
  obtain ⟨v', w', hr, h2, h3, h4, h5⟩ := run_append_own_at (P := Tryd.prog) (w.alloc (.cells #[strV t] 9)) B 67 o.type 9 i _ 1 16 ht hi hz hs1 hby hzc (by decide) v xs.length xs hown2 ⟨w.heap.size, 0, none⟩ 1 1 [strV t] rfl (cell_one_new w (strV t) 9) (by intro u hu; simp at hu; subst hu; rfl) (by unfold maxLen; omega) (by omega) (by simp; omega)
  unfold Oper.wp execOp
  simp only [ho, resolve, invoke, builtin, Sem.run_bind, Sem.run_pure, Result.andThen_ok, List.map_toArray, List.map_cons, List.map_nil, hs, hx, hr]
  refine h v' w' ?_ (grownBy_trans (World.grownBy_alloc w _ _) h3) ?_
  · unfold Own
    rw [List.length_append]
    exact h2
  · rcases h5 with h5 | h5
    · exact .inl h5
    · exact .inr ⟨_, h5, by simp⟩
theorem field_k (a b : ByteArray) (k : Int) (w : World) : (Instr.field 35 (.agg #[.string a, .int .i64 k, .string b]) 1).run Tryd.prog w = .ok (.int .i64 k) w := by kernel_rfl
theorem kindAt_eq (all : List Nd) (f : Bts) : (nodeG all f).getD (ndV nd0) = .agg #[.string ⟨((lookN all f).getD nd0).p.toArray⟩, .int .i64 (kindAt all f), .string ⟨((lookN all f).getD nd0).d.toArray⟩] := (nodeG_get all f).1
theorem laysOk_step {all : List Nd} {i : Nat} (h : ∀ n ∈ all.take i, n.p ≠ [47] → kindAt all (partF n.p) = 2) (hi : i < all.length) (hn : (ndAt all i).p ≠ [47] → kindAt all (partF (ndAt all i).p) = 2) : ∀ n ∈ all.take (i + 1), n.p ≠ [47] → kindAt all (partF n.p) = 2 := by
  rw [List.take_add_one, ndAt_get hi]
  intro n hn2
  rcases List.mem_append.1 hn2 with h1 | h1
  · exact h n h1
  · simp at h1; subst h1; exact hn
theorem namesIn_root {l : List Nd} {n : Nd} (h : n.p = [47]) : namesIn (l ++ [n]) = namesIn l := by
  funext f
  rw [namesIn_snoc, h]; simp
set_option maxRecDepth 100000 in
set_option maxHeartbeats 16000000 in
theorem lay_any (bt m1 m2 n1 : Nat) (sl : Value) (all : List Nd) (w : World) (hbt : Box w bt 59 [.map (some m1), .map (some m2), sl, .int .i64 0]) (hm1 : MapS isNdV w m1 n1 (nodeG all)) (hm2 : MapS isSlV w m2 0 (fun _ => none)) (hne : m1 ≠ m2)
    (hsl : IsNds w sl all) (hb : ∀ n ∈ all, n.p.length ≤ 1000000 ∧ n.d.length ≤ 1000000) (hl : all.length ≤ 5000) :
    Calls Tryd.prog 23 #[.pointer (some ⟨bt, 0, none⟩)] w fun e w' => ∃ b, e = .returned (.bool b) ∧ (b = true ↔ laysOk all) ∧ w.grownBy w' (some m2) ∧ (b = true → NamesAt w' m2 all) := by
  have HSL := Lib.hid hsl
  have HB := Lib.hid hb
  have HBT := Lib.hid hbt
  have HM1 := Lib.hid hm1
  obtain ⟨a, cap, rfl, a1, a2, -, a3⟩ := hsl
  unfold maxLen at a2
  have k2 : w.cell? ⟨bt, 2, none⟩ = some (.slice a all.length cap) := by rw [hbt.cell]; rfl
  have HM2 := Lib.hid hm2
  have hlt2 := hm2.lt
  clear hb hbt hm1 hm2
  go_enter Tryd.func23, Tryd.ntmps23
  go_wp2_with fail
  go_loopw [12] (fun ti wr => ∃ (i : Nat) (g : Bts → Option Value), i ≤ all.length ∧ ti = .int .i64 i ∧ Hid (∀ n ∈ all.take i, n.p ≠ [47] → kindAt all (partF n.p) = 2) ∧ Hid (MapS isSlV wr m2 i g) ∧ Hid (NamesOwn wr w.heap.size g (all.take i)) ∧ Hid (w.grownBy wr (some m2))) (fun ti _ => all.length - (intOf ti).toNat)
  case atStart => exact ⟨0, _, Nat.zero_le _, rfl, Lib.hid (fun n hn => by simp at hn), HM2, Lib.hid ⟨fun f => rfl, fun f f' v v' _ h => by cases h⟩, Lib.hid ⟨rfl, rfl, rfl, Nat.le_refl _, fun _ _ _ => rfl⟩⟩
  case round =>
    obtain ⟨i, g, hi, rfl, HK, HM, HN, HG⟩ := hrel
    by_cases hlt : i < all.length
    · have hltI : (i : Int) < (all.length : Int) := by omega
      obtain ⟨b, off, rfl, hc⟩ := a3 (by omega)
      have hcell : ∀ q o u, w.cell? ⟨q, o, none⟩ = some u → wr.cell? ⟨q, o, none⟩ = some u := fun q o u hu => by
        have hq : q ≠ m2 := fun e => by
          subst e
          obtain ⟨D, ⟨es, clock, hbb, -⟩, -⟩ := HM2.out
          unfold World.cell? at hu
          simp [hbb] at hu
        rw [World.cell?_of_block (w := w) (HG.out.block q (World.block_lt_of_cell? w _ hu) (fun e => hq (by injection e)))]; exact hu
      obtain ⟨c0, c1, c2⟩ := hc i hlt
      replace c0 := hcell _ _ _ c0
      replace c1 := hcell _ _ _ c1
      replace c2 := hcell _ _ _ c2
      obtain ⟨hpl, hdl⟩ := HB.out _ (ndAt_mem hlt)
      have HKS := Lib.hid (laysOk_step HK.out hlt)
      have HKF : Hid ((ndAt all i).p ≠ [47] → kindAt all (partF (ndAt all i).p) ≠ 2 → ¬ laysOk all) := Lib.hid (fun h1 h2 h3 => h2 (h3 _ (ndAt_mem hlt) h1))
      have HTK : Hid (all.take (i + 1) = all.take i ++ [ndAt all i]) := Lib.hid (by rw [List.take_add_one, ndAt_get hlt]; rfl)
      have hbtw := HBT.out.grown HG.out (fun e => HM2.out.ne_cells HBT.out (by injection e))
      have hm1w := HM1.out.kept HG.out (fun e => hne (by injection e))
      have HBTW := Lib.hid hbtw
      have HM1W := Lib.hid hm1w
      generalize ndAt all i = nd at *
      obtain ⟨p, k, d⟩ := nd
      clear hc hcell hbtw hm1w a3
      by_cases h47 : p = [47]
      · subst h47
        have HK2 : Hid (∀ n ∈ all.take (i + 1), n.p ≠ [47] → kindAt all (partF n.p) = 2) := Lib.hid (HKS.out fun h => absurd rfl h)
        have HN2 : Hid (∀ o, NamesOwn (wr.alloc o) w.heap.size g (all.take (i + 1))) := Lib.hid (fun o => by
          have := HN.out.below (ext_alloc wr o)
          refine ⟨fun f => ?_, this.2⟩
          rw [HTK.out, namesIn_root rfl]
          exact this.1 f)
        clear HKS HKF HTK
        go_wp2_with fail
        exact ⟨⟨i + 1, g, by omega, by go_num, HK2, Lib.hid ((HM.out.alloc _).mono (by omega)), Lib.hid (HN2.out _), Lib.hid (grownBy_trans HG.out (World.grownBy_alloc wr _ _))⟩, by simp [intOf]; omega⟩
      · have e47 : (p == [47]) = false := by rw [beq_eq_false_iff_ne]; exact h47
        have HP := Lib.hid (fun w => Part_any p w hpl)
        have hF : (partF p).length ≤ 1000000 := by unfold partF; rw [List.length_take]; exact Nat.le_trans (Nat.min_le_right _ _) hpl
        have HNP : Hid (∀ (w' : World) (W : World) (v' : Value), Below wr.heap.size wr W → Own w' w.heap.size 9 v' ((namesIn (all.take i) (partF p)).map strV ++ [strV (partN p)]) → W.grownBy w' ((g (partF p)).getD (.slice none 0 0)).ownBlock → (v'.ownBlock = ((g (partF p)).getD (.slice none 0 0)).ownBlock ∨ ∃ k, v'.ownBlock = some k ∧ W.heap.size ≤ k) → NamesOwn w' w.heap.size (updG g (partF p) v') (all.take (i + 1))) := Lib.hid (fun w' W v' hbw ho hg hv => by
          rw [HTK.out]
          exact NamesOwn.put (n := ⟨p, k, d⟩) (HN.out.below hbw) h47 ho hg hv)
        have HOW : Hid (∃ a0 l0 c0, (g (partF p)).getD (.slice none 0 0) = .slice a0 l0 c0 ∧ Own wr w.heap.size 9 (.slice a0 l0 c0) ((namesIn (all.take i) (partF p)).map strV)) := Lib.hid (by
          have h5 := HN.out.1 (partF p)
          cases hg : g (partF p) with
          | none => rw [hg] at h5; rw [h5]; exact ⟨none, 0, 0, rfl, Own.nil _ _ _⟩
          | some v =>
            rw [hg] at h5
            obtain ⟨a0, cp, e, -⟩ := Own.isStr h5.1
            have h6 := h5.1
            rw [e] at h6
            exact ⟨a0, _, cp, e, h6⟩)
        have HKS2 : Hid (kindAt all (partF p) = 2 → ∀ n ∈ all.take (i + 1), n.p ≠ [47] → kindAt all (partF n.p) = 2) := Lib.hid (fun h => HKS.out fun _ => h)
        have HKF2 : Hid (kindAt all (partF p) ≠ 2 → ¬ laysOk all) := Lib.hid (HKF.out h47)
        have hnl : ((namesIn (all.take i) (partF p)).map strV).length ≤ 5000 := by
          rw [List.length_map]; unfold namesIn; rw [List.length_map]
          exact Nat.le_trans (List.length_filter_le _ _) (by rw [List.length_take]; omega)
        have HLK : Hid (∀ W, MapS isNdV W m1 n1 (nodeG all) → (Instr.lookup 51 (.map (some m1)) (.string ⟨(partF p).toArray⟩) false).run Tryd.prog W = .ok (.agg #[.string ⟨((lookN all (partF p)).getD nd0).p.toArray⟩, .int .i64 (kindAt all (partF p)), .string ⟨((lookN all (partF p)).getD nd0).d.toArray⟩]) W) := Lib.hid (fun W hW => by
          have := hW.look Tryd.underlying51 (zeroNd _) ⟨nd0, rfl⟩ hF
          rw [kindAt_eq] at this
          exact this)
        obtain ⟨a0, l0, c0', e0, ho0⟩ := HOW.out
        have HO0 := Lib.hid ho0
        have HLS : Hid (∀ W, MapS isSlV W m2 i g → (Instr.lookup 52 (.map (some m2)) (.string ⟨(partF p).toArray⟩) false).run Tryd.prog W = .ok (.slice a0 l0 c0') W) := Lib.hid (fun W hW => by
          have := hW.look Tryd.underlying52 (zeroSl _) ⟨none, 0, 0, rfl⟩ hF
          rw [e0] at this
          exact this)
        rw [e0] at HNP
        clear HKS HKF HTK HOW e0 ho0
        generalize partF p = F at *
        generalize partN p = N at *
        generalize (namesIn (all.take i) F).map strV = xs at *
        generalize ((lookN all F).getD nd0).p = jp at *
        generalize ((lookN all F).getD nd0).d = jd at *
        have kb0 : ∀ o n, ((wr.alloc o).drewN n).cell? ⟨bt, 0, none⟩ = some (.map (some m1)) := fun o n => by rw [((HBTW.out.alloc o).drew n).cell]; rfl
        have kb1 : ∀ o n, ((wr.alloc o).drewN n).cell? ⟨bt, 1, none⟩ = some (.map (some m2)) := fun o n => by rw [((HBTW.out.alloc o).drew n).cell]; rfl
        have hl0 : ∀ o n, (Instr.lookup 51 (.map (some m1)) (.string ⟨F.toArray⟩) false).run Tryd.prog ((wr.alloc o).drewN n) = .ok (.agg #[.string ⟨jp.toArray⟩, .int .i64 (kindAt all F), .string ⟨jd.toArray⟩]) ((wr.alloc o).drewN n) := fun o n => HLK.out _ ((HM1W.out.alloc o).drew n)
        have hfk := field_k ⟨jp.toArray⟩ ⟨jd.toArray⟩ (kindAt all F)
        by_cases hk2 : kindAt all F = 2
        · have HK2 := Lib.hid (HKS2.out hk2)
          rw [hk2] at hl0 hfk
          clear hk2
          have kc1 : ∀ o n o2, (((wr.alloc o).drewN n).alloc o2).cell? ⟨bt, 1, none⟩ = some (.map (some m2)) := fun o n o2 => by rw [(((HBTW.out.alloc o).drew n).alloc o2).cell]; rfl
          have hn0 : ∀ o n, (Instr.lookup 52 (.map (some m2)) (.string ⟨F.toArray⟩) false).run Tryd.prog ((wr.alloc o).drewN n) = .ok (.slice a0 l0 c0') ((wr.alloc o).drewN n) := fun o n => HLS.out _ ((HM.out.alloc o).drew n)
          have hn1 : ∀ o n o2, (Instr.lookup 52 (.map (some m2)) (.string ⟨F.toArray⟩) false).run Tryd.prog (((wr.alloc o).drewN n).alloc o2) = .ok (.slice a0 l0 c0') (((wr.alloc o).drewN n).alloc o2) := fun o n o2 => HLS.out _ (((HM.out.alloc o).drew n).alloc o2)
          clear HKS2 HKF2
          go_wp2_with fail
          refine (HP.out _).mono ?_
          rintro e w' ⟨rfl, n2, rfl⟩
          go_wp2_with fail
          have HBW : Hid (Below wr.heap.size wr ((wr.alloc (.cells #[.string ⟨p.toArray⟩, .int .i64 k, .string ⟨d.toArray⟩] 35)).drewN (n2 + 1))) := Lib.hid (below_dr (ext_alloc _ _) _)
          have hown := HO0.out.below HBW.out
          have hsz : w.heap.size ≤ ((wr.alloc (.cells #[.string ⟨p.toArray⟩, .int .i64 k, .string ⟨d.toArray⟩] 35)).drewN (n2 + 1)).heap.size := Nat.le_trans HG.out.size HBW.out.size
          have hxl : xs.length ≤ 10000000 := by omega
          have hmne : some m2 ≠ (Value.slice a0 l0 c0').ownBlock := fun e => by
            rcases HO0.out.2 with ⟨e1, -⟩ | ⟨g2, cp, cur, e1, -, hh, -⟩
            · rw [e1] at e; simp [Value.ownBlock] at e
            · rw [e1] at e
              have e2 : m2 = g2 := by simpa [Value.ownBlock] using e
              exact HM.out.ne_cells hh e2
          have HMU : Hid (∀ v' w2, Own w2 w.heap.size 9 v' (xs ++ [strV N]) → ((wr.alloc (.cells #[.string ⟨p.toArray⟩, .int .i64 k, .string ⟨d.toArray⟩] 35)).drewN (n2 + 1)).grownBy w2 (Value.slice a0 l0 c0').ownBlock → (v'.ownBlock = (Value.slice a0 l0 c0').ownBlock ∨ ∃ k', v'.ownBlock = some k' ∧ ((wr.alloc (.cells #[.string ⟨p.toArray⟩, .int .i64 k, .string ⟨d.toArray⟩] 35)).drewN (n2 + 1)).heap.size ≤ k') → ∃ w3, (Instr.mapUpdate 52 (.map (some m2)) (.string ⟨F.toArray⟩) v').run Tryd.prog w2 = .ok () w3 ∧ MapS isSlV w3 m2 (i + 1) (updG g F v') ∧ NamesOwn w3 w.heap.size (updG g F v') (all.take (i + 1)) ∧ w.grownBy w3 (some m2)) := Lib.hid (fun v' w2 ho hg hat => by
            have h1 := (HM.out.below HBW.out).kept hg hmne
            have h2 : isSlV v' := by
              rcases ho.2 with ⟨rfl, -⟩ | ⟨g2, cp, cur, rfl, -⟩
              · exact ⟨_, _, _, rfl⟩
              · exact ⟨_, _, _, rfl⟩
            obtain ⟨w3, q1, q2, q3⟩ := h1.update Tryd.underlying52 (by omega) hF h2
            refine ⟨w3, q1, q2, (HNP.out w2 _ v' HBW.out ho hg hat).map h1 q3, ?_⟩
            have g1 : w.grownBy w2 (some m2) := (grownBy_trans HG.out (grownBy_below HBW.out _)).andThen hg (fun j hj => .inl (HO0.out.row j hj).1)
            exact grownBy_trans g1 q3)
          have hbne : (Value.slice a0 l0 c0').ownBlock ≠ some bt := fun e => by
            rcases HO0.out.2 with ⟨e1, -⟩ | ⟨g2, cp, cur, e1, -, hh, -⟩
            · rw [e1] at e; simp [Value.ownBlock] at e
            · rw [e1] at e
              have e2 : g2 = bt := by simpa [Value.ownBlock] using e
              subst e2
              have h3 : wr.heap[g2]? = some (.cells #[.map (some m1), .map (some m2), .slice (some ⟨b, off, none⟩) all.length cap, .int .i64 0] 59 (0, 0)) := HBTW.out
              rw [hh] at h3
              injection h3 with h3
              injection h3 with _ h4 _
              exact absurd h4 (by decide)
          have HKB : Hid (∀ w2, ((wr.alloc (.cells #[.string ⟨p.toArray⟩, .int .i64 k, .string ⟨d.toArray⟩] 35)).drewN (n2 + 1)).grownBy w2 (Value.slice a0 l0 c0').ownBlock → w2.cell? ⟨bt, 1, none⟩ = some (.map (some m2))) := Lib.hid (fun w2 hg => by
            rw [(((HBTW.out.alloc _).drew _).grown hg hbne).cell]; rfl)
          go_region_law (refine step_appAt _ rfl _ _ rfl w.heap.size (.slice a0 l0 c0') xs (by simp [Act.eval, Act.put]) hown N (wr.heap.size + 1) (by simp [Act.eval, Act.put]) (by simp) hxl hsz ?_; intro v' w2 hown2 hgr2 hat; obtain ⟨w3, hrun3, hm3, hn3, hg3⟩ := HMU.out v' w2 hown2 hgr2 hat; have kw2 := HKB.out w2 hgr2)
          all_goals
            have HM3 := Lib.hid hm3
            have HN3 := Lib.hid hn3
            have HG3 := Lib.hid hg3
            clear hm3 hn3 hg3 hown2 hgr2 hat kw2 hrun3
            go_wp2_with fail
            exact ⟨⟨i + 1, updG g F v', by omega, by go_num, HK2, HM3, HN3, HG3⟩, by simp [intOf]; omega⟩
        · have HF := Lib.hid (HKF2.out hk2)
          have hk2b : (kindAt all F == 2) = false := by rw [beq_eq_false_iff_ne]; exact hk2
          have hk2c : (kindAt all F != 2) = true := by simp [hk2]
          clear HKS2 HKF2 HLK HLS hnl HNP
          go_wp2_with fail
          refine (HP.out _).mono ?_
          rintro e w' ⟨rfl, n2, rfl⟩
          go_wp2_with fail
          go_ret
          exact ⟨_, rfl, by simp [HF.out], grownBy_trans HG.out (grownBy_trans (World.grownBy_alloc wr _ _) (grownBy_drew _ _ _)), fun h => by cases h⟩
    · obtain rfl : i = all.length := by omega
      have HK2 : Hid (laysOk all) := Lib.hid (by have := HK.out; rw [List.take_length] at this; exact this)
      have HN2 : Hid (NamesAt wr m2 all) := Lib.hid ⟨_, g, HM.out, by have := HN.out.of; rw [List.take_length] at this; exact this⟩
      clear a3 HK HN
      go_wp2_with fail
      go_ret
      exact ⟨_, rfl, by simp [HK2.out], HG.out, fun _ => HN2.out⟩
end Go.Proofs.YtedfgikikjggaaaDoor
