/- The evaluator: values that stand for themselves, one set for another. -/
import Derived.Test.YtbeoeghcmabemaaGreatDoorEvZA
import Derived.Maps.RangeRun
set_option linter.unusedVariables false
set_option linter.unusedSectionVars false
set_option linter.unusedSimpArgs false
namespace Go.Ev
open Go.RowKit
variable {P : Program}

/-- Whatever stands for something stands for it there, too. -/
def SgLe (s s' : Sg) : Prop := ∀ i, flatV (s.val i) = true → s'.val i = s.val i
section
variable {s s' : Sg}
mutual
theorem con_sg (hl : SgLe s s') {β : Bt} : ∀ {x : AV} {v : Value}, @con s β x = some v → @con s' β x = some v
  | .nat n, v, h => by simpa only [con] using h
  | .u8 n, v, h => by simpa only [con] using h
  | .int k z, v, h => by simpa only [con] using h
  | .bool b, v, h => by simpa only [con] using h
  | .str n l, v, h => by simpa only [con] using h
  | .raw u, v, h => by simpa only [con] using h
  | .ptr b off, v, h => by simpa only [con] using h
  | .slice b off len ex d, v, h => by simpa only [con] using h
  | .map b, v, h => by simpa only [con] using h
  | .iface t x, v, h => by
    simp only [con, Option.map_eq_some_iff] at h ⊢
    obtain ⟨c, hc, rfl⟩ := h
    exact ⟨c, con_sg hl hc, rfl⟩
  | .agg l, v, h => by
    simp only [con, Option.bind_eq_some_iff] at h ⊢
    obtain ⟨c, hc, hv⟩ := h
    exact ⟨c, conL_sg hl hc, hv⟩
  | .tup l, v, h => by
    simp only [con, Option.map_eq_some_iff] at h ⊢
    obtain ⟨c, hc, hv⟩ := h
    exact ⟨c, conL_sg hl hc, hv⟩
  | .fn f a b, v, h => by
    simp only [con, Option.bind_eq_some_iff, Option.map_eq_some_iff] at h ⊢
    obtain ⟨x, hx, y, hy, hv⟩ := h
    exact ⟨x, conL_sg hl hx, y, conL_sg hl hy, hv⟩
  | .sym i, v, h => by
    simp only [con] at h ⊢
    split at h
    · rename_i hf
      injection h with h
      rw [hl i hf, if_pos hf, h]
    · cases h
theorem conL_sg (hl : SgLe s s') {β : Bt} : ∀ {l : List AV} {vs : List Value}, @conL s β l = some vs → @conL s' β l = some vs
  | [], vs, h => by simpa only [conL] using h
  | x :: xs, vs, h => by
    simp only [conL, Option.bind_eq_some_iff, Option.map_eq_some_iff] at h ⊢
    obtain ⟨v, hv, us, hu, rfl⟩ := h
    exact ⟨v, con_sg hl hv, us, conL_sg hl hu, rfl⟩
end
theorem EntR.sg (hl : SgLe s s') {β : Bt} : ∀ {es : List (AV × AV × Nat)} {ms : List MapEntry}, @EntR s β es ms → @EntR s' β es ms
  | [], [], _ => trivial
  | [], _ :: _, h => h
  | _ :: _, [], h => h
  | e :: es, m :: ms, ⟨h1, h2, h3, h4⟩ => ⟨con_sg hl h1, con_sg hl h2, h3, EntR.sg hl h4⟩
theorem BlkR.sg (hl : SgLe s s') {β : Bt} {κ : Nat} {o : Option Obj} {b : Blk} (h : @BlkR s β κ o b) : @BlkR s' β κ o b := by
  cases b with
  | cells e len c ex esz =>
    obtain ⟨cs, fz, h1, h2, h3, h4⟩ := h
    refine ⟨cs, fz, h1, h2, fun i hi => ?_, h4⟩
    obtain ⟨av, u, a, b, c, d⟩ := h3 i hi
    exact ⟨av, u, a, b, con_sg hl c, d⟩
  | map es clock =>
    obtain ⟨ms, h1, h2⟩ := h
    exact ⟨ms, h1, h2.sg hl⟩
  | iter l pos => exact h
  | miter b since => exact h
theorem HR.sg (hl : SgLe s s') {β : Bt} {h : Hp} {w : World} (hr : @HR s β h w) : @HR s' β h w := by
  refine @HR.mk s' β h w (fun b x hb => ?_) (@HR.inj s β h w hr) (@HR.fresh s β h w hr) (@HR.low s β h w hr)
  obtain ⟨h1, c, κ, h2, h3⟩ := @HR.blk s β h w hr b x hb
  exact ⟨h1, c, κ, h2, h3.sg hl⟩
/-- What has no place, and stands for no other, is the same to all. -/
theorem flat1_sg {x : AV} (h : flatB.flat1 x = true) (β β' : Bt) : @con s β x = @con s' β' x := by
  unfold flatB.flat1 at h
  cases x <;> first | (simp only [con]; done) | (cases h; done)
/-- What tells of no block from a number on, and stands for no other. -/
theorem low_sg {n : Nat} {x : AV} {β β' : Bt} (h : lowA1 n x = true) (hb : ∀ b, b < n → ∀ y, β b = some y → β' b = some y) {v : Value} (hv : @con s β x = some v) : @con s' β' x = some v := by
  cases x with
  | nat n => simpa only [con] using hv
  | u8 n => simpa only [con] using hv
  | int k z => simpa only [con] using hv
  | bool b => simpa only [con] using hv
  | str n l => simpa only [con] using hv
  | raw u => simpa only [con] using hv
  | ptr b off =>
    simp only [con, Option.map_eq_some_iff] at hv ⊢
    obtain ⟨c, hc, rfl⟩ := hv
    exact ⟨c, hb b (Nat.le_of_ble_eq_true h) _ hc, rfl⟩
  | slice b off len ex d =>
    simp only [con, Option.bind_eq_some_iff] at hv ⊢
    obtain ⟨c, hc, hv⟩ := hv
    exact ⟨c, hb b (Nat.le_of_ble_eq_true h) _ hc, hv⟩
  | map b =>
    simp only [con, Option.map_eq_some_iff] at hv ⊢
    obtain ⟨c, hc, rfl⟩ := hv
    exact ⟨c, hb b (Nat.le_of_ble_eq_true h) _ hc, rfl⟩
  | fn f a b =>
    unfold lowA1 at h
    split at h <;> first | (cases h; done) | skip
    all_goals first | (rename_i e; cases e; done) | (rename_i e; injection e with e1 e2 e3; subst e1; subst e2; subst e3; simpa [con, conL] using hv)
  | iface t y => cases h
  | agg l => cases h
  | tup l => cases h
  | sym i => cases h
end
/-- A world that is the same where it is looked at. -/
theorem HR.same [Sg] {β : Bt} {h : Hp} {w w' : World} (hr : HR β h w) (hs : ∀ b x c κ, h.tr.get (path b) = some x → β b = some (c, κ) → w'.heap[c]? = w.heap[c]?) : HR β h w' := by
  refine ⟨fun b x hb => ?_, hr.inj, hr.fresh, hr.low⟩
  obtain ⟨h1, c, κ, h2, h3⟩ := hr.blk b x hb
  exact ⟨h1, c, κ, h2, by rw [hs b x c κ hb h2]; exact h3⟩
/-- What the nodes met stand for; the iterator. -/
noncomputable abbrev sgOf (ir : Nat) (vs : List MapEntry) : Sg := ⟨fun i => if i = itS then .pointer (some ⟨ir, 0, none⟩) else match vs[i / 4]? with
  | some e => (e.key :: e.val.cells.toList).getD (i % 4) (.agg #[])
  | none => .agg #[]⟩
theorem sgOf_le (ir : Nat) (vs : List MapEntry) (e : MapEntry) : SgLe (sgOf ir vs) (sgOf ir (vs ++ [e])) := by
  intro i hi
  unfold sgOf at hi ⊢
  dsimp only at hi ⊢
  by_cases h : i = itS
  · rw [if_pos h, if_pos h]
  · rw [if_neg h] at hi ⊢
    rw [if_neg h]
    cases hv : vs[i / 4]? with
    | none => rw [hv] at hi; cases hi
    | some x =>
      have hlt : i / 4 < vs.length := (List.getElem?_eq_some_iff.1 hv).1
      rw [List.getElem?_append_left hlt, hv]
theorem sgOf_it (ir : Nat) (vs : List MapEntry) (β : Bt) : @con (sgOf ir vs) β (.sym itS) = some (.pointer (some ⟨ir, 0, none⟩)) := by
  simp only [con, sgOf, if_pos rfl]; rfl
theorem sgOf_at (ir : Nat) {vs : List MapEntry} {j q : Nat} {e : MapEntry} {v : Value} (hj : vs[j]? = some e) (hq : q < 4) (hb : j < 100000) (hv : (e.key :: e.val.cells.toList)[q]? = some v) (hf : flatV v = true) (β : Bt) : @con (sgOf ir vs) β (.sym (4 * j + q)) = some v := by
  have h1 : (sgOf ir vs).val (4 * j + q) = v := by
    show (if 4 * j + q = itS then _ else _) = v
    rw [if_neg (by unfold itS; omega), show (4 * j + q) / 4 = j by omega, hj, show (4 * j + q) % 4 = q by omega]
    dsimp only
    rw [List.getD_eq_getElem?_getD, hv]; rfl
  simp only [con]
  rw [h1, if_pos hf]
end Go.Ev
namespace Go.Ev
open Go.RowKit
open Go.ChangeMaps (setBlock)
variable {P : Program}

theorem noCall_sound [Sg] [Sl] : CallSound P noCall := fun f xs h k H => by cases H
noncomputable def envS (bt : Nat) : Tr AV := (Tr.set (path 4) (some (.ptr bt 0)) .leaf).set (path 60) (some (.sym itS))
theorem envSK_eq (bt : Nat) (k : Tr AV → Ans) : envSK bt k = k (envS bt) := by
  unfold envSK envS
  rw [setP_eq, setP_eq]
theorem envS_get {bt t : Nat} {av : AV} (h : (envS bt).get (path t) = some av) : (t = 4 ∧ av = .ptr bt 0) ∨ (t = 60 ∧ av = .sym itS) := by
  unfold envS at h
  rw [get_set, get_set] at h
  split at h
  · rename_i e; injection h with h; exact .inr ⟨path_inj e, h.symm⟩
  · split at h
    · rename_i e; injection h with h; exact .inl ⟨path_inj e, h.symm⟩
    · rw [get_leaf] at h; cases h
theorem stillK_yes [Sg] [Sl] {bt : Nat} {env : Tr AV} {x : Ans} (H : stillK bt env x = .yes) : x = .yes ∧ env.get (path 4) = some (.ptr bt 0) ∧ env.get (path 60) = some (.sym itS) := by
  unfold stillK at H
  obtain ⟨y, h1, H1⟩ := getP_yes H
  obtain ⟨h2, H2⟩ := cnd_yes H1
  obtain ⟨z, h3, H3⟩ := getP_yes H2
  split at H3
  · obtain ⟨h4, H4⟩ := cnd_yes H3
    exact ⟨H4, by rw [h1, eqA1_eq h2], by rw [h3, Nat.eq_of_beq_eq_true h4]⟩
  · cases H3
theorem onNormal_no {e : Ex} {x : Ans} {n : Nat} (H : onNormal e x (.no n) = .yes) : e = .normal ∧ x = .yes := by
  cases e with
  | normal => exact ⟨rfl, H⟩
  | exit i => cases H
  | goto l => cases H
  | ret => cases H
theorem pickK_yes {n2 bt : Nat} {h : Hp} {k : Hp → Ans} (H : pickK n2 bt h k = .yes) : ∃ ty m c ex sz bg off len ex2 d blg, h.tr.get (path bt) = some (.cells ty m c ex sz) ∧ c.get (path 2) = some (.slice bg off len ex2 d) ∧ n2 ≤ bg ∧ bt ≤ h.lo ∧ h.tr.get (path bg) = some blg ∧
    k (.mk ((Tr.set (path bt) (some (.cells ty m c ex sz)) .leaf).set (path bg) (some blg)) h.nx h.lo) = .yes := by
  obtain ⟨t, n, low⟩ := h
  unfold pickK at H
  obtain ⟨bl, h1, H⟩ := getP_yes H
  split at H
  · obtain ⟨s, h2, H⟩ := getP_yes H
    split at H
    · obtain ⟨h3, H⟩ := cnd_yes H
      obtain ⟨blg, h4, H⟩ := getP_yes H
      rw [setP_eq, setP_eq] at H
      rw [Bool.and_eq_true] at h3
      exact ⟨_, _, _, _, _, _, _, _, _, _, blg, h1, h2, Nat.le_of_ble_eq_true h3.1, Nat.le_of_ble_eq_true h3.2, h4, H⟩
    · cases H
  · cases H
/-- What holds throughout. -/
structure Cx (P : Program) (N keep : Nat) (p : NewParts) (ms : Array MapEntry) (clock cbm ir bt cbt n2 : Nat) (β0 : Bt) (w0 : World) : Prop where
  hm : P.follows .mixedOrders = true
  o14 : ∃ x y, p.ops14.toList = [x, y] ∧ x.op = .next (.tmp 60) false ∧ x.dst = some 61 ∧ x.guard = none ∧ y.op = .extract (.tmp 61) 0 ∧ y.dst = some 62 ∧ y.guard = none
  o15 : ∃ x l, p.ops15.toList = x :: l ∧ x.op = .entry (.tmp 60) ∧ x.dst = some 63 ∧ x.guard = none
  n : 64 ≤ N
  dst15 : ∀ o ∈ p.ops15.toList, ∀ d, o.dst = some d → d < N
  k4 : inMask keep 4 = true
  k60 : inMask keep 60 = true
  k63 : inMask keep 63 = false
  glob : GlobK P β0
  gt : ∀ b, bt < b → β0 b = none
  at_ : ∃ κ, β0 bt = some (cbt, κ)
  lt : bt < n2
  map : w0.heap[cbm]? = some (.map ms clock)
  ne1 : cbm ≠ cbt
  ne2 : cbm ≠ ir
  ne3 : ir ≠ cbt
  irlt : ir < w0.heap.size
  born : ∀ m ∈ ms.toList, m.born < clock
  nod : (ms.toList.map (·.born)).Nodup
  val : ∀ m ∈ ms.toList, flatV m.key = true ∧ ∃ a b c, m.val = .agg #[a, b, c] ∧ flatV a = true ∧ flatV b = true ∧ flatV c = true
structure LInv (ms : Array MapEntry) (clock cbm ir bt cbt n2 : Nat) (β0 : Bt) (w0 : World) (N : Nat) (ds : List Deferred) (vs : List MapEntry) (β : Bt) (h : Hp) (a : Act) (w : World) : Prop where
  hr : @HR (sgOf ir vs) β h w
  dom : ∀ b x, h.tr.get (path b) = some x → b = bt ∨ n2 ≤ b
  nx : n2 ≤ h.nx
  lo : bt ≤ h.lo
  old : ∀ b, b < n2 → β b = β0 b
  new : ∀ b c κ, n2 ≤ b → β b = some (c, κ) → w0.heap.size ≤ c ∨ c = cbt
  os : w.os = w0.os
  tape : w.tape = w0.tape
  output : w.output = w0.output
  size : w0.heap.size ≤ w.heap.size
  block : ∀ c, c < w0.heap.size → c ≠ cbt → c ≠ ir → w.heap[c]? = w0.heap[c]?
  t4 : a.tmps.getD 4 undef = .pointer (some ⟨cbt, 0, none⟩)
  t60 : a.tmps.getD 60 undef = .pointer (some ⟨ir, 0, none⟩)
  sz : N ≤ a.tmps.size
  dfr : a.defers = ds
  iter : ∃ last, clock ≤ last ∧ w.heap[ir]? = some (.mapIter (some cbm) clock (vs.map (·.born)).toArray last)
  sub : ∀ e ∈ vs, e ∈ ms.toList
  nod : (vs.map (·.born)).Nodup
section
variable {N keep fuel : Nat} {p : NewParts} {ms : Array MapEntry} {clock cbm ir bt cbt n2 : Nat} {β0 : Bt} {w0 : World} {ds : List Deferred} {vs : List MapEntry} {β : Bt} {h : Hp} {a : Act} {w : World}
/-- What a step leaves as it was. -/
theorem Cx.keeps (cx : Cx P N keep p ms clock cbm ir bt cbt n2 β0 w0) (li : LInv ms clock cbm ir bt cbt n2 β0 w0 N ds vs β h a w) {t : Tr Blk} {lo : Nat} {w' : World} (kp : Kept β t lo w w') (hlo : bt ≤ lo) : ∀ c, c < w0.heap.size → c ≠ cbt → w'.heap[c]? = w.heap[c]? := fun c hc hne => by
  refine kp.blocks c (Nat.lt_of_lt_of_le hc li.size) fun b κ _ hb _ e => ?_
  obtain ⟨κ0, hat⟩ := cx.at_
  by_cases h1 : b < n2
  · rw [li.old b h1] at e
    by_cases h2 : b = bt
    · rw [h2, hat] at e; injection e with e; injection e with e _; exact hne e.symm
    · rw [cx.gt b (by omega)] at e; cases e
  · rcases li.new b c κ (by omega) e with h2 | h2
    · omega
    · exact hne h2
theorem wanted_none {o : Oper} (hg : o.guard = none) (t : Array Value) : ∀ ops, Region.wanted o (yielded ops t) = true := fun ops => by
  unfold Region.wanted; rw [hg]
theorem getD_put_ne {a : Act} {d t : Nat} {u : Value} (h : t ≠ d) : (a.put (some d) u).tmps.getD t undef = a.tmps.getD t undef := by
  simp only [Act.put, Array.getD_eq_getD_getElem?, Array.getElem?_setIfInBounds]
  rw [if_neg (fun e => h e.symm)]
theorem getD_put {a : Act} {d : Nat} {u : Value} (h : d < a.tmps.size) : (a.put (some d) u).tmps.getD d undef = u := by
  simp [Act.put, Array.getD, h]
/-- The body of a round. -/
theorem body_ok [Sl] (cx : Cx P N keep p ms clock cbm ir bt cbt n2 β0 w0) {i : Nat} {k : Hp → Ans} (H : roundK P N keep fuel p bt n2 i (envS bt) h k = .yes) {e : MapEntry} (hvs : vs.length = i) (hi : i < 100000) (li : LInv ms clock cbm ir bt cbt n2 β0 w0 N ds (vs ++ [e]) β h a w)
    (hit : w.heap[ir]? = some (.mapIter (some cbm) clock ((vs.map (·.born)).toArray.push e.born) clock)) :
    ∃ h', k h' = .yes ∧ ∀ Q : Exit → Act → World → Prop, (∀ β' a' w', LInv ms clock cbm ir bt cbt n2 β0 w0 N ds (vs ++ [e]) β' h' a' w' → Q .normal a' w') → (Code.block p.b3 (.seq (.region p.i15 p.ops15 false) (.region p.i16 p.ops16 true))).wp P Q a w := by
  letI sg : Sg := sgOf ir (vs ++ [e])
  have he : e ∈ ms.toList := li.sub e (by simp)
  obtain ⟨hk, c0, c1, c2, hv, f0, f1, f2⟩ := cx.val e he
  have hat : (vs ++ [e])[i]? = some e := by rw [← hvs]; simp
  have hcells : e.key :: e.val.cells.toList = [e.key, c0, c1, c2] := by rw [hv]; rfl
  have tupC : ∀ β', con β' (.tup [.sym (4 * i), .agg [.sym (4 * i + 1), .sym (4 * i + 2), .sym (4 * i + 3)]]) = some (.tuple #[e.key, e.val]) := fun β' => by
    have g0 : con β' (.sym (4 * i)) = some e.key := sgOf_at ir (q := 0) hat (by omega) hi (by rw [hcells]; rfl) hk β'
    have g1 : con β' (.sym (4 * i + 1)) = some c0 := sgOf_at ir (q := 1) hat (by omega) hi (by rw [hcells]; rfl) f0 β'
    have g2 : con β' (.sym (4 * i + 2)) = some c1 := sgOf_at ir (q := 2) hat (by omega) hi (by rw [hcells]; rfl) f1 β'
    have g3 : con β' (.sym (4 * i + 3)) = some c2 := sgOf_at ir (q := 3) hat (by omega) hi (by rw [hcells]; rfl) f2 β'
    have ga : con β' (.agg [.sym (4 * i + 1), .sym (4 * i + 2), .sym (4 * i + 3)]) = some e.val := by
      rw [con, conL_mk g1 (conL_mk g2 (conL_mk g3 rfl)), hv]
      simp only [Option.bind_some]
      rw [if_pos (by simp [f0, f1, f2])]
    rw [con, conL_mk g0 (conL_mk ga rfl)]
    rfl
  obtain ⟨x, l, hops, hop, hdst, hg⟩ := cx.o15
  obtain ⟨κ0, hbt⟩ := cx.at_
  have hK0 : EnvK keep (envS bt) := fun t ht => by
    cases hget : (envS bt).get (path t) with
    | none => rfl
    | some av =>
      rcases envS_get hget with ⟨rfl, -⟩ | ⟨rfl, -⟩
      · rw [cx.k4] at ht; cases ht
      · rw [cx.k60] at ht; cases ht
  have pl0 : Pl P keep (x :: l) [] 0 [] (envS bt) (fun t => (envS bt).get (path t)) := ⟨⟨rfl, fun t av h => h⟩, hK0, fun t av h => h, fun e he => by cases he⟩
  have hdn : dstP keep x = none := by unfold dstP; rw [hdst]; dsimp only; rw [cx.k63]
  have pl1 := pl0.push (.tup [.sym (4 * i), .agg [.sym (4 * i + 1), .sym (4 * i + 2), .sym (4 * i + 3)]])
  rw [hdn, hdst] at pl1
  unfold roundK at H
  rw [hops] at H
  obtain ⟨env1, h1, H1, hK1, hw1⟩ := seq_sound (noCall_sound (P := P)) (N := N) (ops := p.ops15) (bf := (x :: l).map fun _ => 0) l (l.map fun _ => 0) [(63, .inl 0)] 1 1 [_] (envS bt) _ h _ (by simp) (fun o ho => cx.dst15 o (by rw [hops]; exact List.mem_cons_of_mem _ ho)) pl1 (by rw [hops]; exact H)
  obtain ⟨ex, env2, h2, H2, hK2, hw2⟩ := run_sound (regOK cx.hm noCall noCall_sound N keep) fuel (.code (.region p.i16 p.ops16 true)) env1 h1 _ H1 hK1
  obtain ⟨rfl, H3⟩ := onNormal_no H2
  obtain ⟨H4, q4, q60⟩ := stillK_yes H3
  obtain ⟨ty, m, c, exx, sz, bg, off, len, ex2, d, blg, p1, p2, p3, p4, p5, H5⟩ := pickK_yes H4
  refine ⟨_, H5, fun Q hQ => ?_⟩
  refine wp_block (wp_seq (wp_region_list ?_))
  rw [hops]
  show if _ then _ else _
  rw [if_pos (wanted_none hg _ _)]
  left
  unfold Oper.wp
  have hrun : (execOp a.eval x).run P w = .ok (.value (.tuple #[e.key, e.val])) w := by
    unfold execOp
    rw [hop]
    show (do Pure.pure (Next.value (← Instr.entry (a.tmps.getD 60 undef)))).run P w = _
    have hmap : w.heap[cbm]? = some (.map ms clock) := by
      rw [li.block cbm (Array.getElem?_eq_some_iff.1 cx.map).1 cx.ne1 cx.ne2]; exact cx.map
    rw [li.t60, Sem.run_bind, run_entry_at w ir cbm clock (vs.map (·.born)).toArray ms clock e hit hmap he cx.nod]
    rfl
  rw [hrun]
  show wpList P p.ops15 _ l (a.put x.dst (.tuple #[e.key, e.val])) w
  rw [hdst]
  have hlt63 : 63 < a.tmps.size := Nat.lt_of_lt_of_le (by omega) (Nat.le_trans cx.n li.sz)
  have hcv0 : CvR β (fun t => (envS bt).get (path t)) a.tmps := fun t av ht => by
    rcases envS_get ht with ⟨rfl, rfl⟩ | ⟨rfl, rfl⟩
    · rw [li.t4]; simp only [con, li.old bt cx.lt, hbt]; rfl
    · rw [li.t60]; exact sgOf_it ir _ β
  have hcv : CvR β (updO (fun t => (envS bt).get (path t)) (some 63) (some (.tup [.sym (4 * i), .agg [.sym (4 * i + 1), .sym (4 * i + 2), .sym (4 * i + 3)]]))) (a.put (some 63) (.tuple #[e.key, e.val])).tmps :=
    hcv0.put (.refl β) (fun t ht => by injection ht with ht; subst ht; exact hlt63) fun av hav => by injection hav with hav; subst hav; exact tupC β
  have hglob : GlobK P β := fun g hgl => by
    obtain ⟨κ, e⟩ := cx.glob g hgl
    have : g < n2 := by
      rcases Nat.lt_or_ge bt g with h | h
      · rw [cx.gt g h] at e; cases e
      · have := cx.lt; omega
    exact ⟨κ, by rw [li.old g this]; exact e⟩
  refine hw1 ds β _ w li.hr hcv (by rw [put_size]; exact li.sz) (by rw [put_defers]; exact li.dfr) hglob _ fun a1 w1 ⟨β1, s1, r1⟩ => ?_
  show (Code.region p.i16 p.ops16 true).wp P _ a1 w1
  have hglob1 := hglob.le (s1.le li.hr)
  refine wp_mono (hw2 ds β1 a1 w1 r1 hglob1) fun ee a2 w2 hp => ?_
  obtain ⟨rfl, β2, s2, r2⟩ := hp
  have s := s1.trans li.hr s2
  have hk2 := cx.keeps li s.kept p4
  have hiter2 : w2.heap[ir]? = w.heap[ir]? := hk2 ir cx.irlt cx.ne3
  have sub : ∀ b x, ((Tr.set (path bt) (some (.cells ty m c exx sz)) .leaf).set (path bg) (some blg)).get (path b) = some x → h2.tr.get (path b) = some x ∧ (b = bt ∨ b = bg) := fun b x hb => by
    rw [get_set, get_set] at hb
    split at hb
    · rename_i e; injection hb with hb; rw [path_inj e, ← hb]; exact ⟨p5, .inr rfl⟩
    · split at hb
      · rename_i e; injection hb with hb; rw [path_inj e, ← hb]; exact ⟨p1, .inl rfl⟩
      · rw [get_leaf] at hb; cases hb
  have hr2 := s.hr
  have hnx : h.nx ≤ h2.nx := s.nx
  refine hQ β2 a2 w2 ⟨⟨fun b x hb => hr2.blk b x (sub b x hb).1, fun b b' x x' c κ κ' hb hb' => hr2.inj b b' x x' c κ κ' (sub b x hb).1 (sub b' x' hb').1, hr2.fresh, hr2.low⟩, fun b x hb => ?_, Nat.le_trans li.nx hnx, p4, fun b hb => ?_, fun b c κ hb e => ?_, s.kept.os.trans li.os, s.kept.tape.trans li.tape, s.kept.output.trans li.output, Nat.le_trans li.size s.kept.size, fun c hc h1 h2 => (hk2 c hc h1).trans (li.block c hc h1 h2), ?_, ?_, r2.size, r2.defers, ?_, li.sub, li.nod⟩
  · rcases (sub b x hb).2 with h | h
    · exact .inl h
    · exact .inr (by rw [h]; exact p3)
  · rw [s.old b (Nat.lt_of_lt_of_le hb li.nx)]; exact li.old b hb
  · by_cases hbn : b < h.nx
    · rw [s.old b hbn] at e; exact li.new b c κ hb e
    · rcases s.new b c κ (by omega) e with g | ⟨y, κ', -, g1, g2, -, g3⟩
      · exact .inl (Nat.le_trans li.size g)
      · by_cases hy : y < n2
        · rw [li.old y hy] at g3
          by_cases hyb : y = bt
          · rw [hyb, hbt] at g3; injection g3 with g3; injection g3 with g3 _; exact .inr g3.symm
          · rw [cx.gt y (by have := Nat.le_trans p4 g1; omega)] at g3; cases g3
        · exact li.new y c κ' (by omega) g3
  · have := r2.env 4 _ q4
    have hb2 : β2 bt = some (cbt, κ0) := by rw [s.old bt (Nat.lt_of_lt_of_le cx.lt li.nx), li.old bt cx.lt, hbt]
    simp only [con, hb2] at this
    injection this with this; exact this.symm
  · have := r2.env 60 _ q60
    rw [sgOf_it] at this
    injection this with this; exact this.symm
  · exact ⟨clock, Nat.le_refl _, by rw [hiter2, hit]; simp⟩
end
end Go.Ev
namespace Go.Ev
open Go.RowKit
open Go.ChangeMaps (setBlock)
variable {P : Program}

section
variable {N keep fuel : Nat} {p : NewParts} {ms : Array MapEntry} {clock cbm ir bt cbt n2 : Nat} {β0 : Bt} {w0 : World} {ds : List Deferred}
theorem leftOf_mem {es : Array MapEntry} {seen : List Nat} {e : MapEntry} : e ∈ (leftOf es seen.toArray).toList ↔ e ∈ es.toList ∧ e.born ∉ seen := by
  unfold leftOf
  simp
/-- The rounds of a loop over nodes. -/
theorem loop_ok [Sl] (cx : Cx P N keep p ms clock cbm ir bt cbt n2 β0 w0) (hms : ms.size < 100000) {k : Hp → Ans} : ∀ (m i : Nat) (h : Hp), loopK P N keep fuel p bt n2 m i h k = .yes → i + m = ms.size → ∀ (vs : List MapEntry) (β : Bt) (a : Act) (w : World), vs.length = i →
    LInv ms clock cbm ir bt cbt n2 β0 w0 N ds vs β h a w → ∀ Q : Exit → Act → World → Prop, (∀ h' vs' β' a' w', k h' = .yes → vs'.length = ms.size → LInv ms clock cbm ir bt cbt n2 β0 w0 N ds vs' β' h' a' w' → Q .normal a' w') →
    Code.rounds P p.loopC (Exit.inBlock p.b2 Q) (m + 1) a w := by
  intro m
  induction m with
  | zero =>
    intro i h H him vs β a w hvs li Q hQ
    replace H : k h = .yes := H
    letI sg : Sg := sgOf ir vs
    obtain ⟨x, y, hops, hx1, hx2, hx3, hy1, hy2, hy3⟩ := cx.o14
    obtain ⟨last, hlast, hit⟩ := li.iter
    have hmap : w.heap[cbm]? = some (.map ms clock) := by
      rw [li.block cbm (Array.getElem?_eq_some_iff.1 cx.map).1 cx.ne1 cx.ne2]; exact cx.map
    show p.loopC.wp P _ a w
    unfold NewParts.loopC
    refine wp_seq (wp_region_list ?_)
    rw [hops]
    show if _ then _ else _
    rw [if_pos (wanted_none hx3 _ _)]
    left
    unfold Oper.wp
    rcases run_next_at (P := P) w x.type ir cbm clock last (vs.map (·.born)).toArray ms clock hit hmap cx.born hlast with ⟨-, hrun⟩ | ⟨e, he, -⟩
    · have hr1 : (execOp a.eval x).run P w = .ok (.value (.tuple #[.bool false])) w := by
        unfold execOp
        rw [hx1]
        show (do Pure.pure (Next.value (← Instr.next (a.tmps.getD 60 undef) false x.type))).run P w = _
        rw [li.t60, Sem.run_bind, hrun]; rfl
      rw [hr1]
      show wpList P p.ops14 _ [y] (a.put x.dst (.tuple #[.bool false])) w
      rw [hx2]
      show if _ then _ else _
      rw [if_pos (wanted_none hy3 _ _)]
      left
      unfold Oper.wp
      have h61 : 61 < a.tmps.size := Nat.lt_of_lt_of_le (by omega) (Nat.le_trans cx.n li.sz)
      have hr2 : (execOp (a.put (some 61) (.tuple #[.bool false])).eval y).run P w = .ok (.value (.bool false)) w := by
        unfold execOp
        rw [hy1]
        show (do Pure.pure (Next.value (← Instr.extract ((a.put (some 61) (.tuple #[.bool false])).tmps.getD 61 undef) 0))).run P w = _
        rw [getD_put h61]; rfl
      rw [hr2]
      show (Code.seq _ _).wp P _ ((a.put (some 61) (.tuple #[.bool false])).put y.dst (.bool false)) w
      rw [hy2]
      have h62 : 62 < (a.put (some 61) (.tuple #[.bool false])).tmps.size := by rw [put_size]; exact Nat.lt_of_lt_of_le (by omega) (Nat.le_trans cx.n li.sz)
      refine wp_seq (wp_cond (t := false) (getD_put h62) (wp_exit ?_))
      show Exit.inBlock p.b2 Q (.exit p.b2) _ _
      unfold Exit.inBlock
      dsimp only
      rw [if_pos rfl]
      refine hQ h vs β _ w H (by omega) { li with t4 := ?_, t60 := ?_, sz := by rw [put_size, put_size]; exact li.sz, dfr := by rw [put_defers, put_defers]; exact li.dfr }
      · rw [getD_put_ne (by decide), getD_put_ne (by decide)]; exact li.t4
      · rw [getD_put_ne (by decide), getD_put_ne (by decide)]; exact li.t60
    · exfalso
      rw [leftOf_mem] at he
      have := List.Nodup.length_le_of_subset (l₁ := (e.born :: vs.map (·.born))) (l₂ := ms.toList.map (·.born)) (List.nodup_cons.2 ⟨he.2, li.nod⟩) (fun z hz => by
        rcases List.mem_cons.1 hz with rfl | hz
        · exact List.mem_map.2 ⟨e, he.1, rfl⟩
        · obtain ⟨q, hq, rfl⟩ := List.mem_map.1 hz
          exact List.mem_map.2 ⟨q, li.sub q hq, rfl⟩)
      simp at this
      omega
  | succ m ih =>
    intro i h H him vs β a w hvs li Q hQ
    replace H : envSK bt (fun env => roundK P N keep fuel p bt n2 i env h fun h' => fNat (Nat.succ i) fun i' => loopK P N keep fuel p bt n2 m i' h' k) = .yes := H
    rw [envSK_eq] at H
    letI sg : Sg := sgOf ir vs
    obtain ⟨x, y, hops, hx1, hx2, hx3, hy1, hy2, hy3⟩ := cx.o14
    obtain ⟨last, hlast, hit⟩ := li.iter
    have hmap : w.heap[cbm]? = some (.map ms clock) := by
      rw [li.block cbm (Array.getElem?_eq_some_iff.1 cx.map).1 cx.ne1 cx.ne2]; exact cx.map
    show p.loopC.wp P _ a w
    unfold NewParts.loopC
    refine wp_seq (wp_region_list ?_)
    rw [hops]
    show if _ then _ else _
    rw [if_pos (wanted_none hx3 _ _)]
    left
    unfold Oper.wp
    have h61 : 61 < a.tmps.size := Nat.lt_of_lt_of_le (by omega) (Nat.le_trans cx.n li.sz)
    rcases run_next_at (P := P) w x.type ir cbm clock last (vs.map (·.born)).toArray ms clock hit hmap cx.born hlast with ⟨h0, -⟩ | ⟨e, he, w', hw', hrun⟩
    · exfalso
      have hall : ∀ z ∈ ms.toList.map (·.born), z ∈ vs.map (·.born) := fun z hz => by
        obtain ⟨q, hq, rfl⟩ := List.mem_map.1 hz
        refine Classical.byContradiction fun hn => ?_
        have : q ∈ (leftOf ms (vs.map (·.born)).toArray).toList := leftOf_mem.2 ⟨hq, hn⟩
        rw [Array.eq_empty_of_size_eq_zero h0] at this
        cases this
      have := List.Nodup.length_le_of_subset cx.nod hall
      simp at this
      omega
    · have hr1 : (execOp a.eval x).run P w = .ok (.value (.tuple #[.bool true, e.key, e.val])) (setBlock w' ir (.mapIter (some cbm) clock ((vs.map (·.born)).toArray.push e.born) clock)) := by
        unfold execOp
        rw [hx1]
        show (do Pure.pure (Next.value (← Instr.next (a.tmps.getD 60 undef) false x.type))).run P w = _
        rw [li.t60, Sem.run_bind, hrun]; rfl
      rw [hr1]
      generalize hw1 : setBlock w' ir (.mapIter (some cbm) clock ((vs.map (·.born)).toArray.push e.born) clock) = w1
      have hheap : w'.heap = w.heap := by rcases hw' with rfl | rfl <;> rfl
      have hoth : ∀ c, c ≠ ir → w1.heap[c]? = w.heap[c]? := fun c hc => by
        rw [← hw1]
        show (w'.heap.setIfInBounds ir _)[c]? = _
        rw [Array.getElem?_setIfInBounds, if_neg (fun h => hc h.symm), hheap]
      have hirl : ir < w.heap.size := Nat.lt_of_lt_of_le cx.irlt li.size
      have hir : w1.heap[ir]? = some (.mapIter (some cbm) clock ((vs.map (·.born)).toArray.push e.born) clock) := by
        rw [← hw1]
        show (w'.heap.setIfInBounds ir _)[ir]? = _
        rw [hheap, Array.getElem?_setIfInBounds, if_pos rfl, if_pos hirl]
      have hsz1 : w1.heap.size = w.heap.size := by
        rw [← hw1]
        show (w'.heap.setIfInBounds ir _).size = _
        rw [Array.size_setIfInBounds, hheap]
      have h3 : w1.os = w.os ∧ w1.tape = w.tape ∧ w1.output = w.output := by
        rw [← hw1]
        rcases hw' with rfl | rfl <;> exact ⟨rfl, rfl, rfl⟩
      show wpList P p.ops14 _ [y] (a.put x.dst (.tuple #[.bool true, e.key, e.val])) w1
      rw [hx2]
      show if _ then _ else _
      rw [if_pos (wanted_none hy3 _ _)]
      left
      unfold Oper.wp
      have hr2 : (execOp (a.put (some 61) (.tuple #[.bool true, e.key, e.val])).eval y).run P w1 = .ok (.value (.bool true)) w1 := by
        unfold execOp
        rw [hy1]
        show (do Pure.pure (Next.value (← Instr.extract ((a.put (some 61) (.tuple #[.bool true, e.key, e.val])).tmps.getD 61 undef) 0))).run P w1 = _
        rw [getD_put h61]; rfl
      rw [hr2]
      show (Code.seq _ _).wp P _ ((a.put (some 61) (.tuple #[.bool true, e.key, e.val])).put y.dst (.bool true)) w1
      rw [hy2]
      have h62 : 62 < (a.put (some 61) (.tuple #[.bool true, e.key, e.val])).tmps.size := by rw [put_size]; exact Nat.lt_of_lt_of_le (by omega) (Nat.le_trans cx.n li.sz)
      refine wp_seq (wp_cond (t := true) (getD_put h62) (wp_skip ?_))
      show (Code.block _ _).wp P _ _ w1
      rw [leftOf_mem] at he
      obtain ⟨κ0, hbt⟩ := cx.at_
      have li1 : LInv ms clock cbm ir bt cbt n2 β0 w0 N ds (vs ++ [e]) β h ((a.put (some 61) (.tuple #[.bool true, e.key, e.val])).put (some 62) (.bool true)) w1 := by
        refine ⟨@HR.same (sgOf ir (vs ++ [e])) β h w w1 (HR.sg (sgOf_le ir vs e) li.hr) fun b z c κ hb hc => hoth c fun hcir => ?_, li.dom, li.nx, li.lo, li.old, li.new, h3.1.trans li.os, h3.2.1.trans li.tape, h3.2.2.trans li.output, by rw [hsz1]; exact li.size, fun c hc h1 h2 => (hoth c h2).trans (li.block c hc h1 h2), ?_, ?_, by rw [put_size, put_size]; exact li.sz, by rw [put_defers, put_defers]; exact li.dfr, ⟨clock, Nat.le_refl _, by rw [hir]; simp⟩, fun z hz => ?_, ?_⟩
        · rcases li.dom b z hb with rfl | hge
          · rw [li.old b cx.lt, hbt] at hc; injection hc with hc; injection hc with hc _; exact cx.ne3 (hcir.symm.trans hc.symm)
          · rcases li.new b c κ hge hc with h | h
            · have := cx.irlt; omega
            · exact cx.ne3 (hcir.symm.trans h)
        · rw [getD_put_ne (by decide), getD_put_ne (by decide)]; exact li.t4
        · rw [getD_put_ne (by decide), getD_put_ne (by decide)]; exact li.t60
        · rcases List.mem_append.1 hz with hz | hz
          · exact li.sub z hz
          · rw [List.mem_singleton.1 hz]; exact he.1
        · rw [List.map_append, List.nodup_append]
          refine ⟨li.nod, by simp, fun q hq q' hq' e' => ?_⟩
          simp at hq'
          subst hq'
          subst e'
          exact he.2 hq
      obtain ⟨h', H', hbody⟩ := body_ok cx H hvs (by omega) li1 hir
      rw [fNat_eq] at H'
      refine hbody _ fun β' a' w' li' => ?_
      show Code.rounds P p.loopC (Exit.inBlock p.b2 Q) (m + 1) a' w'
      exact ih (i + 1) h' H' (by omega) (vs ++ [e]) β' a' w' (by simp; omega) li' Q hQ
end
end Go.Ev
