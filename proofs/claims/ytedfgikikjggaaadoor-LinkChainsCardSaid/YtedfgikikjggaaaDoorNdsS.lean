/- An append of a node as one step of a region that draws its order; what is met of a map of nodes. -/
import Derived.Test.YtedfgikikjggaaaDoorTreeB
import Derived.Test.YtedfgikikjggaaaDoorStep
set_option linter.unusedVariables false
set_option linter.unusedSimpArgs false
namespace Go.Proofs.YtedfgikikjggaaaDoor
open Go.RowKit Go.Maps

theorem step_appN {ops : Array Oper} {o : Oper} {a : Act} {K : Act → World → Prop} {Q : Exit → Act → World → Prop} {E : Prop} (w : World)
    (hg : o.guard = none) (s x : Operand) (ho : o.op = .call { callee := .builtin .append, args := #[s, x], argTypes := #[22, 22] })
    (B : Nat) (v : Value) (ts : List Nd) (hs : a.eval s = v) (hown : OwnN w B v ts) (t : Nd) (bk : Nat) (hx : a.eval x = .slice (some ⟨bk, 0, none⟩) 1 1) (hbk : bk = w.heap.size)
    (hlen : ts.length ≤ 10000000) (hB : B ≤ w.heap.size)
    (h : ∀ v' w', OwnN w' B v' (ts ++ [t]) → w.grownBy w' v.ownBlock → K (a.put o.dst v') w') :
    if Region.wanted o (yielded ops a.tmps) = true then Oper.wp Tryd.prog o a (w.alloc (.cells (ndC t).toArray 35)) K Q else E := by
  have hw : Region.wanted o (yielded ops a.tmps) = true := by simp [Region.wanted, hg]
  rw [if_pos hw]
  subst hbk
  obtain ⟨i, hi, hz, hs1, hby⟩ := okN
  refine wp_append_own _ s x 22 ho B 35 i _ 3 40 Tryd.underlying22 hi hz hs1 hby rfl (by decide) v ts.length (ts.flatMap ndC) hs (World.ownsRow.alloc hown _) ⟨w.heap.size, 0, none⟩ 1 1 (ndC t) hx rfl ?_ ?_ ?_ ?_ ?_ ?_
  · intro j u hj
    have := cell_of_row (w.alloc (.cells (ndC t).toArray 35)) w.heap.size j (ndC t).toArray 35 (0, 0) (heap_alloc_new w _)
    rw [addr_add, this]
    simpa using hj
  · intro u hu
    simp [ndC] at hu
    rcases hu with rfl | rfl | rfl <;> rfl
  · unfold maxLen; omega
  · omega
  · simp; omega
  · intro v' w' h2 h3 _
    refine h v' w' ?_ (grownBy_trans (World.grownBy_alloc w _ _) h3)
    unfold OwnN
    rw [List.length_append, List.flatMap_append]
    simpa using h2
def prjV : Value → Bts × Int × Bts
  | .agg a => match a.toList with
    | [.string p, .int _ k, .string d] => (p.data.toList, k, d.data.toList)
    | _ => ([], 0, [])
  | _ => ([], 0, [])
theorem prjV_nd (n : Nd) : prjV (ndV n) = (n.p, n.k, n.d) := rfl
theorem ndV_inj {a b : Nd} (h : ndV a = ndV b) : a = b := by
  have e := congrArg prjV h
  rw [prjV_nd, prjV_nd] at e
  injection e with e1 e
  injection e with e2 e3
  exact Nd.ext' e1 e2 e3
theorem nodup_inj : ∀ {l : List Nd}, (l.map (·.p)).Nodup → ∀ {m n : Nd}, m ∈ l → n ∈ l → m.p = n.p → m = n
  | x :: l, h, m, n, hm, hn, e => by
    rw [List.map_cons, List.nodup_cons] at h
    rcases List.mem_cons.1 hm with e1 | h1 <;> rcases List.mem_cons.1 hn with e2 | h2
    · rw [e1, e2]
    · exact absurd (by rw [← e1, e]; exact List.mem_map_of_mem h2) h.1
    · exact absurd (by rw [← e2, ← e]; exact List.mem_map_of_mem h1) h.1
    · exact nodup_inj h.2 h1 h2 e
/-- What was met of a map, and what is still to come. -/
def Coll (g : Bts → Option Value) (left : Lit → Bool) (ms : List Nd) : Prop := (ms.map (·.p)).Nodup ∧ ∀ n, n ∈ ms ↔ (g n.p = some (ndV n) ∧ left (.string n.p) = false)
theorem Coll.start {D : DataW Value} {g : Bts → Option Value} (hG : Gives D g) : Coll g (Maps.has D) [] := by
  refine ⟨List.nodup_nil, fun n => ⟨fun h => (by cases h), fun h => ?_⟩⟩
  have h2 := hG n.p
  rw [h.1] at h2
  rw [h2.1] at h
  cases h.2
theorem Coll.step {g : Bts → Option Value} {left : Lit → Bool} {ms : List Nd} (h : Coll g left ms) {x : Bts} {n : Nd} (hx : g x = some (ndV n)) (hp : n.p = x) (hl : left (.string x) = true) : Coll g (fun z => left z && !z.sameKey (.string x)) (ms ++ [n]) := by
  subst hp
  have hnew : ∀ m ∈ ms, m.p ≠ n.p := fun m hm e => by
    have := ((h.2 m).1 hm).2
    rw [e, hl] at this; cases this
  refine ⟨?_, fun m => ?_⟩
  · rw [List.map_append, List.nodup_append]
    refine ⟨h.1, by simp, fun a ha b hb => ?_⟩
    obtain ⟨m, hm, rfl⟩ := List.mem_map.1 ha
    simp at hb; subst hb
    exact hnew m hm
  · rw [List.mem_append, List.mem_singleton, h.2 m]
    by_cases e : m.p = n.p
    · constructor
      · rintro (⟨h1, h2⟩ | rfl)
        · rw [e, hl] at h2; cases h2
        · exact ⟨hx, by simp [Lit.sameKey]⟩
      · rintro ⟨h1, -⟩
        rw [e, hx] at h1
        injection h1 with h1
        exact .inr (ndV_inj h1).symm
    · have hs : (Lit.string m.p).sameKey (.string n.p) = false := sameKey_ne (fun h => e (by injection h))
      show _ ↔ (_ ∧ (left (.string m.p) && !(Lit.string m.p).sameKey (.string n.p)) = false)
      rw [hs]
      simp only [Bool.not_false, Bool.and_true]
      exact ⟨fun h => h.elim id (fun h => absurd (by rw [h]) e), .inl⟩
/-- With the root. -/
def rootG (ns : List Nd) : Bts → Option Value := updG (nodeG ns) [47] (ndV rootN)
theorem nodeG_p {ns : List Nd} {s : Bts} {n : Nd} (h : nodeG ns s = some (ndV n)) : lookN ns s = some n ∧ n.p = s := by
  unfold nodeG at h
  cases hl : lookN ns s with
  | none => rw [hl] at h; cases h
  | some m =>
    rw [hl] at h
    injection h with h
    have := ndV_inj h
    subst this
    exact ⟨rfl, (lookN_some hl).2⟩
theorem rootG_p {ns : List Nd} {s : Bts} {n : Nd} (h : rootG ns s = some (ndV n)) : n.p = s := by
  unfold rootG updG at h
  by_cases hs : s = [47]
  · rw [if_pos hs] at h
    injection h with h
    rw [← ndV_inj h, hs]; rfl
  · rw [if_neg hs] at h
    exact (nodeG_p h).2
/-- What is met at last: all nodes, and the root. -/
theorem Coll.whole {ns ms all : List Nd} {left : Lit → Bool} (h : Coll (rootG ns) left ms) (hl : ∀ kl, left kl = false) (hf : ∀ n ∈ ns, fitN n = true) (hnd : (ns.map (·.p)).Nodup) (hp : all.Perm ms) (hs : all.Pairwise (fun a b => ltS b.p a.p = false)) : Whole ns all := by
  have hmem : ∀ n, n ∈ ms ↔ (n ∈ ns ∨ n = rootN) := fun n => by
    rw [h.2 n]
    unfold rootG updG
    constructor
    · rintro ⟨h1, -⟩
      by_cases hs : n.p = [47]
      · rw [if_pos hs] at h1
        injection h1 with h1
        exact .inr (ndV_inj h1).symm
      · rw [if_neg hs] at h1
        exact .inl (lookN_some (nodeG_p h1).1).1
    · intro h1
      refine ⟨?_, hl _⟩
      by_cases hs : n.p = [47]
      · rw [if_pos hs]
        rcases h1 with h1 | h1
        · rw [fit_root (hf n h1) hs]
        · rw [h1]
      · rw [if_neg hs]
        rcases h1 with h1 | h1
        · unfold nodeG
          cases hk : lookN ns n.p with
          | none => exact absurd rfl (lookN_none hk n h1)
          | some m =>
            obtain ⟨h2, h3⟩ := lookN_some hk
            have : m = n := nodup_inj hnd h2 h1 h3
            rw [this]; rfl
        · rw [h1] at hs; exact absurd rfl hs
  refine ⟨?_, fun n => (hp.mem_iff).trans (hmem n)⟩
  have hnd2 : (all.map (·.p)).Nodup := (hp.map _).nodup_iff.2 h.1
  rw [List.nodup_iff_pairwise_ne, List.pairwise_map] at hnd2
  refine (hs.and hnd2).imp fun {a b} ⟨h1, h2⟩ => ?_
  cases h3 : ltS a.p b.p with
  | true => rfl
  | false => exact absurd (ltS_total h3 h1) h2
theorem whole_root {ns all : List Nd} (h : Whole ns all) (hf : ∀ n ∈ ns, fitN n = true) : rootG ns = nodeG all := by
  funext s
  unfold rootG updG
  by_cases hs : s = [47]
  · subst hs
    rw [if_pos rfl]
    unfold nodeG
    have := lookN_mem h.1 ((h.2 rootN).2 (.inr rfl))
    rw [show rootN.p = [47] from rfl] at this
    rw [this]; rfl
  · rw [if_neg hs]
    unfold nodeG
    cases hl : lookN ns s with
    | some n =>
      obtain ⟨h1, h2⟩ := lookN_some hl
      have := lookN_mem h.1 ((h.2 n).2 (.inl h1))
      rw [h2] at this
      rw [this]
    | none =>
      cases hl2 : lookN all s with
      | none => rfl
      | some m =>
        obtain ⟨h1, h2⟩ := lookN_some hl2
        rcases (h.2 m).1 h1 with h3 | h3
        · exact absurd h2 (lookN_none hl m h3)
        · rw [h3] at h2; exact absurd h2.symm hs
theorem OwnN.ne {w : World} {B : Nat} {v : Value} {ns : List Nd} (h : OwnN w B v ns) {g : Nat} {cs : List Value} (hb : Box w g 59 cs) : v.ownBlock ≠ some g := by
  rcases h.2 with ⟨rfl, _⟩ | ⟨g2, cap, cur, rfl, _, hh, _⟩
  · simp [Value.ownBlock]
  · intro e
    have e : g2 = g := by simpa [Value.ownBlock] using e
    subst e
    have hb2 : w.heap[g2]? = some (.cells cs.toArray 59 (0, 0)) := hb
    rw [hh] at hb2
    injection hb2 with hb3
    injection hb3 with _ h4 _
    exact absurd h4 (by decide)
theorem OwnN.ne_obj {w : World} {B : Nat} {v : Value} {ns : List Nd} (h : OwnN w B v ns) {g : Nat} {o : Obj} (hb : w.heap[g]? = some o) (ho : ∀ cs t fz, o ≠ .cells cs t fz) : some g ≠ v.ownBlock := by
  rcases h.2 with ⟨rfl, _⟩ | ⟨g2, cap, cur, rfl, _, hh, _⟩
  · simp [Value.ownBlock]
  · intro e
    have e : g = g2 := by simpa [Value.ownBlock] using e
    subst e
    rw [hh] at hb
    injection hb with hb
    exact ho _ _ _ hb.symm
theorem OwnN.ne_map {w : World} {B : Nat} {v : Value} {ns : List Nd} (h : OwnN w B v ns) {C : Value → Prop} {b n : Nat} {g : Bts → Option Value} (hm : MapS C w b n g) : some b ≠ v.ownBlock := by
  obtain ⟨D, ⟨es, clock, hb, -⟩, -⟩ := hm
  exact h.ne_obj hb (fun _ _ _ h => by cases h)
theorem OwnN.ne_ranges {w : World} {B : Nat} {v : Value} {ns : List Nd} (h : OwnN w B v ns) {P : Program} {k : TypeId} {R : Value → Option (DataW Value × List MemPlace)} {b r n : Nat} {D : DataW Value} {left : Lit → Bool} {cnt : Nat} (hr : w.ranges P k R b r n D left cnt) : some b ≠ v.ownBlock ∧ some r ≠ v.ownBlock := by
  obtain ⟨es, clock, since, seen, c0, h1, -, -, -, h2, -⟩ := hr
  exact ⟨h.ne_obj h1 (fun _ _ _ h => by cases h), h.ne_obj h2 (fun _ _ _ h => by cases h)⟩
theorem ranges_ne {w : World} {P : Program} {k : TypeId} {R : Value → Option (DataW Value × List MemPlace)} {b r n : Nat} {D : DataW Value} {left : Lit → Bool} {cnt : Nat} (hr : w.ranges P k R b r n D left cnt) {g : Nat} {t : TypeId} {cs : List Value} (hb : Box w g t cs) : b ≠ g ∧ r ≠ g := by
  obtain ⟨es, clock, since, seen, c0, h1, -, -, -, h2, -⟩ := hr
  have hb2 : w.heap[g]? = some (.cells cs.toArray t (0, 0)) := hb
  exact ⟨fun e => (by subst e; rw [h1] at hb2; cases hb2), fun e => (by subst e; rw [h2] at hb2; cases hb2)⟩
theorem keyStr {x : Bts} {kl : Lit} (h : keyOf Tryd.prog 9 (encStr x) = some kl) : kl = .string x := by
  obtain ⟨x', ex, h2, -⟩ := Maps.keyOf_str Tryd.underlying9 h
  rw [encStr_inj ex]; exact h2
end Go.Proofs.YtedfgikikjggaaaDoor
