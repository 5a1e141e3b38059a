/- The evaluator: what comes before the sort. -/
import Derived.Test.YtniednnklbdciaaDoorEvTE
set_option linter.unusedVariables false
set_option linter.unusedSectionVars false
set_option linter.unusedSimpArgs false
namespace Go.Ev
open Go.RowKit
variable {P : Program}

/-- Rows of three cells, put in order of the first by the library. -/
def SortAt (P : Program) (fs fc : Nat) : Prop := ∀ (w : World) (blk cap : Nat) (d : List Row3) (cs : Array Value) (e : TypeId) (fz : Nat × Nat),
  w.heap[blk]? = some (.cells cs e fz) → (∀ i, i < cs.size → ¬ (fz.1 ≤ i ∧ i < fz.2)) → d.length < 100000 → d.length ≤ cap → cs.size = cap * 3 →
  (∀ x ∈ d, x.1.all (· < 256) = true ∧ flatV x.2.1 = true ∧ flatV x.2.2 = true) →
  (∀ q x, d[q]? = some x → cs[3 * q]? = some (.string (bytesOf x.1)) ∧ cs[3 * q + 1]? = some x.2.1 ∧ cs[3 * q + 2]? = some x.2.2) →
  (callFunc fs #[.slice (some ⟨blk, 0, none⟩) d.length cap, .func (.func fc) #[] #[]]).run P w = .ok (.enter fs #[.slice (some ⟨blk, 0, none⟩) d.length cap, .func (.func fc) #[] #[]]) w ∧
  Calls P fs #[.slice (some ⟨blk, 0, none⟩) d.length cap, .func (.func fc) #[] #[]] w fun ee w' => ee = .returned (.tuple #[]) ∧ ∃ (d' : List Row3) (cs' : Array Value), d'.Perm d ∧ d'.Pairwise (fun x y => ltN y.1 x.1 = false) ∧
    w'.os = w.os ∧ w'.tape = w.tape ∧ w'.output = w.output ∧ w.heap.size ≤ w'.heap.size ∧ (∀ c, c < w.heap.size → c ≠ blk → w'.heap[c]? = w.heap[c]?) ∧
    w'.heap[blk]? = some (.cells cs' e fz) ∧ cs'.size = cs.size ∧ ∀ q x, d'[q]? = some x → cs'[3 * q]? = some (.string (bytesOf x.1)) ∧ cs'[3 * q + 1]? = some x.2.1 ∧ cs'[3 * q + 2]? = some x.2.2
/-- What holds of the operations around the sort. -/
structure Cz (P : Program) (N keep : Nat) (p : NewParts) (fs fc : Nat) : Prop where
  dst17 : ∀ o ∈ p.ops17.toList.dropLast, ∀ d, o.dst = some d → d < N
  o17 : ∃ o args ats, p.ops17.toList = p.ops17.toList.dropLast ++ [o] ∧ o.op = .call ⟨.value (.func fs), args, ats⟩ ∧ args.toList = [.tmp 78, .func fc] ∧ o.guard = none ∧ o.dst ≠ some 4
  sort : SortAt P fs fc
section
variable {N keep fuel : Nat} {p : NewParts} {bt n2 cnt : Nat} {x : Res} {fs fc : Nat}
noncomputable def h17 (bt : Nat) (x : Res) : Hp := .mk (Tr.set (path bt) (some (.cells x.ty x.l.length (putL x.l 0 .leaf) true x.sz)) .leaf) x.n4 x.n4
theorem pre17_yes [Sg] [Sl] (cz : Cz P N keep p fs fc) (k4 : inMask keep 4 = true) (k60 : inMask keep 60 = true) {K : Ans} (H : pre17 P keep p bt x cnt K = .yes) :
    K = .yes ∧ (x.bg < x.n4 → bt < x.n4 → ∀ ds β a w, HR β (h17 bt x) w → CvR β (fun t => (envS bt).get (path t)) a.tmps → N ≤ a.tmps.size → a.defers = ds → GlobK P β → ∀ Q : Exit → Act → World → Prop,
      (∀ a' w', con β (.slice x.bg 0 cnt false 0) = some (a'.tmps.getD 78 undef) → con β (.ptr bt 0) = some (a'.tmps.getD 4 undef) → N ≤ a'.tmps.size → a'.defers = ds → w'.os = w.os → w'.tape = w.tape → w'.output = w.output → w.heap.size ≤ w'.heap.size → (∀ c, c < w.heap.size → w'.heap[c]? = w.heap[c]?) → Q .normal a' w') →
      wpList P p.ops17 Q p.ops17.toList.dropLast a w) := by
  unfold pre17 at H
  rw [writeL_eq, setP_eq, envSK_eq] at H
  have hK0 : EnvK (Nat.lor keep (Nat.pow 2 78)) (envS bt) := fun t ht => by
    rw [inMask_lor, Bool.or_eq_false_iff] at ht
    cases hget : (envS bt).get (path t) with
    | none => rfl
    | some av =>
      rcases envS_get hget with ⟨rfl, -⟩ | ⟨rfl, -⟩
      · rw [k4] at ht; cases ht.1
      · rw [k60] at ht; cases ht.1
  have pl0 : Pl P (Nat.lor keep (Nat.pow 2 78)) p.ops17.toList.dropLast [] 0 [] (envS bt) (fun t => (envS bt).get (path t)) := ⟨⟨rfl, fun t av h => h⟩, hK0, fun t av h => h, fun e he => by cases he⟩
  obtain ⟨env1, h1, H1, hK1, hw1⟩ := seq_sound (noCall_sound (P := P)) (N := N) (ops := p.ops17) (bf := p.ops17.toList.map fun _ => 0) p.ops17.toList.dropLast (p.ops17.toList.dropLast.map fun _ => 0) [] 0 0 [] (envS bt) _ (h17 bt x) _ (by simp) cz.dst17 pl0 H
  obtain ⟨t1, n, low⟩ := h1
  obtain ⟨h2, H2⟩ := cnd_yes H1
  obtain ⟨s, h3, H3⟩ := getP_yes H2
  obtain ⟨h4, H4⟩ := cnd_yes H3
  obtain ⟨y, h5, H5⟩ := getP_yes H4
  obtain ⟨h6, H6⟩ := cnd_yes H5
  rw [Bool.and_eq_true] at h2
  have e1 := Nat.eq_of_beq_eq_true h2.1
  have e2 := Nat.eq_of_beq_eq_true h2.2
  subst e1 e2
  obtain rfl := eqA1_eq h4
  obtain rfl := eqA1_eq h6
  refine ⟨H6, fun hbg hbt ds β a w hr hc hN hds hg Q hQ => hw1 ds β a w hr hc hN hds hg Q fun a' w' ⟨β', s, r⟩ => ?_⟩
  have hold : ∀ b, b < x.n4 → β' b = β b := fun b hb => s.old b hb
  refine hQ a' w' ?_ ?_ r.size r.defers s.kept.os s.kept.tape s.kept.output s.kept.size fun c hc => s.kept.block c hc fun b κ hb e => ?_
  · have := r.env 78 _ h3
    rw [← this]
    simp only [con, hold _ hbg]
  · have := r.env 4 _ h5
    rw [← this]
    simp only [con, hold _ hbt]
  · have := hr.fresh b hb
    rw [this] at e; cases e
end
end Go.Ev
