import Derived.Maps.RangeRun
import Derived.Test.YtaklcjnfjchebaaSa12
set_option linter.unusedVariables false
set_option linter.unusedSectionVars false
set_option linter.unusedSimpArgs false
section
namespace Go.Ev
open Go.RowKit
variable {P : Program}
def SgLe (s s' : Sg) : Prop := ∀ i, flatV (s.val i) = true → s'.val i = s.val i
section
variable {s s' : Sg}
mutual
theorem con_sg (hl : SgLe s s') {β : Bt} : ∀ {x : AV} {v : Value}, @con s β x = some v → @con s' β x = some v
  | .nat n, v, h => by simpa only [con] using h
  | .u8 n, v, h => by simpa only [con] using h
  | .int k z, v, h => by simpa only [con] using h
  | .bool b, v, h => by simpa only [con] using h
  | .str n l, v, h => by simpa only [con] using h
  | .raw u, v, h => by simpa only [con] using h
  | .ptr b off, v, h => by simpa only [con] using h
  | .slice b off len ex d, v, h => by simpa only [con] using h
  | .map b, v, h => by simpa only [con] using h
  | .iface t x, v, h => by
    simp only [con, Option.map_eq_some_iff] at h ⊢
    obtain ⟨c, hc, rfl⟩ := h
    exact ⟨c, con_sg hl hc, rfl⟩
  | .agg l, v, h => by
    simp only [con, Option.bind_eq_some_iff] at h ⊢
    obtain ⟨c, hc, hv⟩ := h
    exact ⟨c, conL_sg hl hc, hv⟩
  | .tup l, v, h => by
    simp only [con, Option.map_eq_some_iff] at h ⊢
    obtain ⟨c, hc, hv⟩ := h
    exact ⟨c, conL_sg hl hc, hv⟩
  | .fn f a b, v, h => by
    simp only [con, Option.bind_eq_some_iff, Option.map_eq_some_iff] at h ⊢
    obtain ⟨x, hx, y, hy, hv⟩ := h
    exact ⟨x, conL_sg hl hx, y, conL_sg hl hy, hv⟩
  | .sym i, v, h => by
    simp only [con] at h ⊢
    split at h
    · rename_i hf
      injection h with h
      rw [hl i hf, if_pos hf, h]
    · cases h
theorem conL_sg (hl : SgLe s s') {β : Bt} : ∀ {l : List AV} {vs : List Value}, @conL s β l = some vs → @conL s' β l = some vs
  | [], vs, h => by simpa only [conL] using h
  | x :: xs, vs, h => by
    simp only [conL, Option.bind_eq_some_iff, Option.map_eq_some_iff] at h ⊢
    obtain ⟨v, hv, us, hu, rfl⟩ := h
    exact ⟨v, con_sg hl hv, us, conL_sg hl hu, rfl⟩
end
theorem EntR.sg (hl : SgLe s s') {β : Bt} : ∀ {es : List (AV × AV × Nat)} {ms : List MapEntry}, @EntR s β es ms → @EntR s' β es ms
  | [], [], _ => trivial
  | [], _ :: _, h => h
  | _ :: _, [], h => h
  | e :: es, m :: ms, ⟨h1, h2, h3, h4⟩ => ⟨con_sg hl h1, con_sg hl h2, h3, EntR.sg hl h4⟩
theorem BlkR.sg (hl : SgLe s s') {β : Bt} {κ : Nat} {o : Option Obj} {b : Blk} (h : @BlkR s β κ o b) : @BlkR s' β κ o b := by
  cases b with
  | cells e len c ex esz =>
    obtain ⟨cs, fz, h1, h2, h3, h4⟩ := h
    refine ⟨cs, fz, h1, h2, fun i hi => ?_, h4⟩
    obtain ⟨av, u, a, b, c, d⟩ := h3 i hi
    exact ⟨av, u, a, b, con_sg hl c, d⟩
  | map es clock =>
    obtain ⟨ms, h1, h2⟩ := h
    exact ⟨ms, h1, h2.sg hl⟩
  | iter l pos => exact h
  | miter b since => exact h
theorem HR.sg (hl : SgLe s s') {β : Bt} {h : Hp} {w : World} (hr : @HR s β h w) : @HR s' β h w := by
  refine @HR.mk s' β h w (fun b x hb => ?_) (@HR.inj s β h w hr) (@HR.fresh s β h w hr) (@HR.low s β h w hr)
  obtain ⟨h1, c, κ, h2, h3⟩ := @HR.blk s β h w hr b x hb
  exact ⟨h1, c, κ, h2, h3.sg hl⟩
theorem flat1_sg {x : AV} (h : flatB.flat1 x = true) (β β' : Bt) : @con s β x = @con s' β' x := by
  unfold flatB.flat1 at h
  cases x <;> first | (simp only [con]; done) | (cases h; done)
theorem low_sg {n : Nat} {x : AV} {β β' : Bt} (h : lowA1 n x = true) (hb : ∀ b, b < n → ∀ y, β b = some y → β' b = some y) {v : Value} (hv : @con s β x = some v) : @con s' β' x = some v := by
  cases x with
  | nat n => simpa only [con] using hv
  | u8 n => simpa only [con] using hv
  | int k z => simpa only [con] using hv
  | bool b => simpa only [con] using hv
  | str n l => simpa only [con] using hv
  | raw u => simpa only [con] using hv
  | ptr b off =>
    simp only [con, Option.map_eq_some_iff] at hv ⊢
    obtain ⟨c, hc, rfl⟩ := hv
    exact ⟨c, hb b (Nat.le_of_ble_eq_true h) _ hc, rfl⟩
  | slice b off len ex d =>
    simp only [con, Option.bind_eq_some_iff] at hv ⊢
    obtain ⟨c, hc, hv⟩ := hv
    exact ⟨c, hb b (Nat.le_of_ble_eq_true h) _ hc, hv⟩
  | map b =>
    simp only [con, Option.map_eq_some_iff] at hv ⊢
    obtain ⟨c, hc, rfl⟩ := hv
    exact ⟨c, hb b (Nat.le_of_ble_eq_true h) _ hc, rfl⟩
  | fn f a b =>
    unfold lowA1 at h
    split at h <;> first | (cases h; done) | skip
    all_goals first | (rename_i e; cases e; done) | (rename_i e; injection e with e1 e2 e3; subst e1; subst e2; subst e3; simpa [con, conL] using hv)
  | iface t y => cases h
  | agg l => cases h
  | tup l => cases h
  | sym i => cases h
end
theorem HR.same [Sg] {β : Bt} {h : Hp} {w w' : World} (hr : HR β h w) (hs : ∀ b x c κ, h.tr.get (path b) = some x → β b = some (c, κ) → w'.heap[c]? = w.heap[c]?) : HR β h w' := by
  refine ⟨fun b x hb => ?_, hr.inj, hr.fresh, hr.low⟩
  obtain ⟨h1, c, κ, h2, h3⟩ := hr.blk b x hb
  exact ⟨h1, c, κ, h2, by rw [hs b x c κ hb h2]; exact h3⟩
noncomputable abbrev sgOf (ir : Nat) (vs : List MapEntry) : Sg := ⟨fun i => if i = itS then .pointer (some ⟨ir, 0, none⟩) else match vs[i / 4]? with
  | some e => (e.key :: e.val.cells.toList).getD (i % 4) (.agg #[])
  | none => .agg #[]⟩
theorem sgOf_le (ir : Nat) (vs : List MapEntry) (e : MapEntry) : SgLe (sgOf ir vs) (sgOf ir (vs ++ [e])) := by
  intro i hi
  unfold sgOf at hi ⊢
  dsimp only at hi ⊢
  by_cases h : i = itS
  · rw [if_pos h, if_pos h]
  · rw [if_neg h] at hi ⊢
    rw [if_neg h]
    cases hv : vs[i / 4]? with
    | none => rw [hv] at hi; cases hi
    | some x =>
      have hlt : i / 4 < vs.length := (List.getElem?_eq_some_iff.1 hv).1
      rw [List.getElem?_append_left hlt, hv]
theorem sgOf_it (ir : Nat) (vs : List MapEntry) (β : Bt) : @con (sgOf ir vs) β (.sym itS) = some (.pointer (some ⟨ir, 0, none⟩)) := by
  simp only [con, sgOf, if_pos rfl]; rfl
theorem sgOf_at (ir : Nat) {vs : List MapEntry} {j q : Nat} {e : MapEntry} {v : Value} (hj : vs[j]? = some e) (hq : q < 4) (hb : j < 100000) (hv : (e.key :: e.val.cells.toList)[q]? = some v) (hf : flatV v = true) (β : Bt) : @con (sgOf ir vs) β (.sym (4 * j + q)) = some v := by
  have h1 : (sgOf ir vs).val (4 * j + q) = v := by
    show (if 4 * j + q = itS then _ else _) = v
    rw [if_neg (by unfold itS; omega), show (4 * j + q) / 4 = j by omega, hj, show (4 * j + q) % 4 = q by omega]
    dsimp only
    rw [List.getD_eq_getElem?_getD, hv]; rfl
  simp only [con]
  rw [h1, if_pos hf]
end Go.Ev
namespace Go.Ev
open Go.RowKit
open Go.ChangeMaps (setBlock)
variable {P : Program}
theorem noCall_sound [Sg] [Sl] : CallSound P noCall := fun f xs h k H => by cases H
noncomputable def envS (bt : Nat) : Tr AV := (Tr.set (path 4) (some (.ptr bt 0)) .leaf).set (path 60) (some (.sym itS))
theorem envSK_eq (bt : Nat) (k : Tr AV → Ans) : envSK bt k = k (envS bt) := by
  unfold envSK envS
  rw [setP_eq, setP_eq]
theorem envS_get {bt t : Nat} {av : AV} (h : (envS bt).get (path t) = some av) : (t = 4 ∧ av = .ptr bt 0) ∨ (t = 60 ∧ av = .sym itS) := by
  unfold envS at h
  rw [get_set, get_set] at h
  split at h
  · rename_i e; injection h with h; exact .inr ⟨path_inj e, h.symm⟩
  · split at h
    · rename_i e; injection h with h; exact .inl ⟨path_inj e, h.symm⟩
    · rw [get_leaf] at h; cases h
theorem stillK_yes [Sg] [Sl] {bt : Nat} {env : Tr AV} {x : Ans} (H : stillK bt env x = .yes) : x = .yes ∧ env.get (path 4) = some (.ptr bt 0) ∧ env.get (path 60) = some (.sym itS) := by
  unfold stillK at H
  obtain ⟨y, h1, H1⟩ := getP_yes H
  obtain ⟨h2, H2⟩ := cnd_yes H1
  obtain ⟨z, h3, H3⟩ := getP_yes H2
  split at H3
  · obtain ⟨h4, H4⟩ := cnd_yes H3
    exact ⟨H4, by rw [h1, eqA1_eq h2], by rw [h3, Nat.eq_of_beq_eq_true h4]⟩
  · cases H3
theorem onNormal_no {e : Ex} {x : Ans} {n : Nat} (H : onNormal e x (.no n) = .yes) : e = .normal ∧ x = .yes := by
  cases e with
  | normal => exact ⟨rfl, H⟩
  | exit i => cases H
  | goto l => cases H
  | ret => cases H
theorem pickK_yes {n2 bt : Nat} {h : Hp} {k : Hp → Ans} (H : pickK n2 bt h k = .yes) : ∃ ty m c ex sz bg off len ex2 d blg, h.tr.get (path bt) = some (.cells ty m c ex sz) ∧ c.get (path 2) = some (.slice bg off len ex2 d) ∧ n2 ≤ bg ∧ bt ≤ h.lo ∧ h.tr.get (path bg) = some blg ∧
    k (.mk ((Tr.set (path bt) (some (.cells ty m c ex sz)) .leaf).set (path bg) (some blg)) h.nx h.lo) = .yes := by
  obtain ⟨t, n, low⟩ := h
  unfold pickK at H
  obtain ⟨bl, h1, H⟩ := getP_yes H
  split at H
  · obtain ⟨s, h2, H⟩ := getP_yes H
    split at H
    · obtain ⟨h3, H⟩ := cnd_yes H
      obtain ⟨blg, h4, H⟩ := getP_yes H
      rw [setP_eq, setP_eq] at H
      rw [Bool.and_eq_true] at h3
      exact ⟨_, _, _, _, _, _, _, _, _, _, blg, h1, h2, Nat.le_of_ble_eq_true h3.1, Nat.le_of_ble_eq_true h3.2, h4, H⟩
    · cases H
  · cases H
structure Cx (P : Program) (N keep : Nat) (p : NewParts) (ms : Array MapEntry) (clock cbm ir bt cbt n2 : Nat) (β0 : Bt) (w0 : World) : Prop where
  hm : P.follows .mixedOrders = true
  o14 : ∃ x y, p.ops14.toList = [x, y] ∧ x.op = .next (.tmp 60) false ∧ x.dst = some 61 ∧ x.guard = none ∧ y.op = .extract (.tmp 61) 0 ∧ y.dst = some 62 ∧ y.guard = none
  o15 : ∃ x l, p.ops15.toList = x :: l ∧ x.op = .entry (.tmp 60) ∧ x.dst = some 63 ∧ x.guard = none
  n : 64 ≤ N
  dst15 : ∀ o ∈ p.ops15.toList, ∀ d, o.dst = some d → d < N
  k4 : inMask keep 4 = true
  k60 : inMask keep 60 = true
  k63 : inMask keep 63 = false
  glob : GlobK P β0
  gt : ∀ b, bt < b → β0 b = none
  at_ : ∃ κ, β0 bt = some (cbt, κ)
  lt : bt < n2
  map : w0.heap[cbm]? = some (.map ms clock)
  ne1 : cbm ≠ cbt
  ne2 : cbm ≠ ir
  ne3 : ir ≠ cbt
  irlt : ir < w0.heap.size
  born : ∀ m ∈ ms.toList, m.born < clock
  nod : (ms.toList.map (·.born)).Nodup
  val : ∀ m ∈ ms.toList, flatV m.key = true ∧ ∃ a b c, m.val = .agg #[a, b, c] ∧ flatV a = true ∧ flatV b = true ∧ flatV c = true
structure LInv (ms : Array MapEntry) (clock cbm ir bt cbt n2 : Nat) (β0 : Bt) (w0 : World) (N : Nat) (ds : List Deferred) (vs : List MapEntry) (β : Bt) (h : Hp) (a : Act) (w : World) : Prop where
  hr : @HR (sgOf ir vs) β h w
  dom : ∀ b x, h.tr.get (path b) = some x → b = bt ∨ n2 ≤ b
  nx : n2 ≤ h.nx
  lo : bt ≤ h.lo
  old : ∀ b, b < n2 → β b = β0 b
  new : ∀ b c κ, n2 ≤ b → β b = some (c, κ) → w0.heap.size ≤ c ∨ c = cbt
  os : w.os = w0.os
  tape : w.tape = w0.tape
  output : w.output = w0.output
  size : w0.heap.size ≤ w.heap.size
  block : ∀ c, c < w0.heap.size → c ≠ cbt → c ≠ ir → w.heap[c]? = w0.heap[c]?
  t4 : a.tmps.getD 4 undef = .pointer (some ⟨cbt, 0, none⟩)
  t60 : a.tmps.getD 60 undef = .pointer (some ⟨ir, 0, none⟩)
  sz : N ≤ a.tmps.size
  dfr : a.defers = ds
  iter : ∃ last, clock ≤ last ∧ w.heap[ir]? = some (.mapIter (some cbm) clock (vs.map (·.born)).toArray last)
  sub : ∀ e ∈ vs, e ∈ ms.toList
  nod : (vs.map (·.born)).Nodup
section
variable {N keep fuel : Nat} {p : NewParts} {ms : Array MapEntry} {clock cbm ir bt cbt n2 : Nat} {β0 : Bt} {w0 : World} {ds : List Deferred} {vs : List MapEntry} {β : Bt} {h : Hp} {a : Act} {w : World}
theorem Cx.keeps (cx : Cx P N keep p ms clock cbm ir bt cbt n2 β0 w0) (li : LInv ms clock cbm ir bt cbt n2 β0 w0 N ds vs β h a w) {t : Tr Blk} {lo : Nat} {w' : World} (kp : Kept β t lo w w') (hlo : bt ≤ lo) : ∀ c, c < w0.heap.size → c ≠ cbt → w'.heap[c]? = w.heap[c]? := fun c hc hne => by
  refine kp.blocks c (Nat.lt_of_lt_of_le hc li.size) fun b κ _ hb _ e => ?_
  obtain ⟨κ0, hat⟩ := cx.at_
  by_cases h1 : b < n2
  · rw [li.old b h1] at e
    by_cases h2 : b = bt
    · rw [h2, hat] at e; injection e with e; injection e with e _; exact hne e.symm
    · rw [cx.gt b (by omega)] at e; cases e
  · rcases li.new b c κ (by omega) e with h2 | h2
    · omega
    · exact hne h2
theorem wanted_none {o : Oper} (hg : o.guard = none) (t : Array Value) : ∀ ops, Region.wanted o (yielded ops t) = true := fun ops => by
  unfold Region.wanted; rw [hg]
theorem getD_put_ne {a : Act} {d t : Nat} {u : Value} (h : t ≠ d) : (a.put (some d) u).tmps.getD t undef = a.tmps.getD t undef := by
  simp only [Act.put, Array.getD_eq_getD_getElem?, Array.getElem?_setIfInBounds]
  rw [if_neg (fun e => h e.symm)]
theorem getD_put {a : Act} {d : Nat} {u : Value} (h : d < a.tmps.size) : (a.put (some d) u).tmps.getD d undef = u := by
  simp [Act.put, Array.getD, h]
theorem body_ok [Sl] (cx : Cx P N keep p ms clock cbm ir bt cbt n2 β0 w0) {i : Nat} {k : Hp → Ans} (H : roundK P N keep fuel p bt n2 i (envS bt) h k = .yes) {e : MapEntry} (hvs : vs.length = i) (hi : i < 100000) (li : LInv ms clock cbm ir bt cbt n2 β0 w0 N ds (vs ++ [e]) β h a w)
    (hit : w.heap[ir]? = some (.mapIter (some cbm) clock ((vs.map (·.born)).toArray.push e.born) clock)) :
    ∃ h', k h' = .yes ∧ ∀ Q : Exit → Act → World → Prop, (∀ β' a' w', LInv ms clock cbm ir bt cbt n2 β0 w0 N ds (vs ++ [e]) β' h' a' w' → Q .normal a' w') → (Code.block p.b3 (.seq (.region p.i15 p.ops15 false) (.region p.i16 p.ops16 true))).wp P Q a w := by
  letI sg : Sg := sgOf ir (vs ++ [e])
  have he : e ∈ ms.toList := li.sub e (by simp)
  obtain ⟨hk, c0, c1, c2, hv, f0, f1, f2⟩ := cx.val e he
  have hat : (vs ++ [e])[i]? = some e := by rw [← hvs]; simp
  have hcells : e.key :: e.val.cells.toList = [e.key, c0, c1, c2] := by rw [hv]; rfl
  have tupC : ∀ β', con β' (.tup [.sym (4 * i), .agg [.sym (4 * i + 1), .sym (4 * i + 2), .sym (4 * i + 3)]]) = some (.tuple #[e.key, e.val]) := fun β' => by
    have g0 : con β' (.sym (4 * i)) = some e.key := sgOf_at ir (q := 0) hat (by omega) hi (by rw [hcells]; rfl) hk β'
    have g1 : con β' (.sym (4 * i + 1)) = some c0 := sgOf_at ir (q := 1) hat (by omega) hi (by rw [hcells]; rfl) f0 β'
    have g2 : con β' (.sym (4 * i + 2)) = some c1 := sgOf_at ir (q := 2) hat (by omega) hi (by rw [hcells]; rfl) f1 β'
    have g3 : con β' (.sym (4 * i + 3)) = some c2 := sgOf_at ir (q := 3) hat (by omega) hi (by rw [hcells]; rfl) f2 β'
    have ga : con β' (.agg [.sym (4 * i + 1), .sym (4 * i + 2), .sym (4 * i + 3)]) = some e.val := by
      rw [con, conL_mk g1 (conL_mk g2 (conL_mk g3 rfl)), hv]
      simp only [Option.bind_some]
      rw [if_pos (by simp [f0, f1, f2])]
    rw [con, conL_mk g0 (conL_mk ga rfl)]
    rfl
  obtain ⟨x, l, hops, hop, hdst, hg⟩ := cx.o15
  obtain ⟨κ0, hbt⟩ := cx.at_
  have hK0 : EnvK keep (envS bt) := fun t ht => by
    cases hget : (envS bt).get (path t) with
    | none => rfl
    | some av =>
      rcases envS_get hget with ⟨rfl, -⟩ | ⟨rfl, -⟩
      · rw [cx.k4] at ht; cases ht
      · rw [cx.k60] at ht; cases ht
  have pl0 : Pl P keep (x :: l) [] 0 [] (envS bt) (fun t => (envS bt).get (path t)) := ⟨⟨rfl, fun t av h => h⟩, hK0, fun t av h => h, fun e he => by cases he⟩
  have hdn : dstP keep x = none := by unfold dstP; rw [hdst]; dsimp only; rw [cx.k63]
  have pl1 := pl0.push (.tup [.sym (4 * i), .agg [.sym (4 * i + 1), .sym (4 * i + 2), .sym (4 * i + 3)]])
  rw [hdn, hdst] at pl1
  unfold roundK at H
  rw [hops] at H
  obtain ⟨env1, h1, H1, hK1, hw1⟩ := seq_sound (noCall_sound (P := P)) (N := N) (ops := p.ops15) (bf := (x :: l).map fun _ => 0) l (l.map fun _ => 0) [(63, .inl 0)] 1 1 [_] (envS bt) _ h _ (by simp) (fun o ho => cx.dst15 o (by rw [hops]; exact List.mem_cons_of_mem _ ho)) pl1 (by rw [hops]; exact H)
  obtain ⟨ex, env2, h2, H2, hK2, hw2⟩ := run_sound (regOK cx.hm noCall noCall_sound N keep) fuel (.code (.region p.i16 p.ops16 true)) env1 h1 _ H1 hK1
  obtain ⟨rfl, H3⟩ := onNormal_no H2
  obtain ⟨H4, q4, q60⟩ := stillK_yes H3
  obtain ⟨ty, m, c, exx, sz, bg, off, len, ex2, d, blg, p1, p2, p3, p4, p5, H5⟩ := pickK_yes H4
  refine ⟨_, H5, fun Q hQ => ?_⟩
  refine wp_block (wp_seq (wp_region_list ?_))
  rw [hops]
  show if _ then _ else _
  rw [if_pos (wanted_none hg _ _)]
  left
  unfold Oper.wp
  have hrun : (execOp a.eval x).run P w = .ok (.value (.tuple #[e.key, e.val])) w := by
    unfold execOp
    rw [hop]
    show (do Pure.pure (Next.value (← Instr.entry (a.tmps.getD 60 undef)))).run P w = _
    have hmap : w.heap[cbm]? = some (.map ms clock) := by
      rw [li.block cbm (Array.getElem?_eq_some_iff.1 cx.map).1 cx.ne1 cx.ne2]; exact cx.map
    rw [li.t60, Sem.run_bind, run_entry_at w ir cbm clock (vs.map (·.born)).toArray ms clock e hit hmap he cx.nod]
    rfl
  rw [hrun]
  show wpList P p.ops15 _ l (a.put x.dst (.tuple #[e.key, e.val])) w
  rw [hdst]
  have hlt63 : 63 < a.tmps.size := Nat.lt_of_lt_of_le (by omega) (Nat.le_trans cx.n li.sz)
  have hcv0 : CvR β (fun t => (envS bt).get (path t)) a.tmps := fun t av ht => by
    rcases envS_get ht with ⟨rfl, rfl⟩ | ⟨rfl, rfl⟩
    · rw [li.t4]; simp only [con, li.old bt cx.lt, hbt]; rfl
    · rw [li.t60]; exact sgOf_it ir _ β
  have hcv : CvR β (updO (fun t => (envS bt).get (path t)) (some 63) (some (.tup [.sym (4 * i), .agg [.sym (4 * i + 1), .sym (4 * i + 2), .sym (4 * i + 3)]]))) (a.put (some 63) (.tuple #[e.key, e.val])).tmps :=
    hcv0.put (.refl β) (fun t ht => by injection ht with ht; subst ht; exact hlt63) fun av hav => by injection hav with hav; subst hav; exact tupC β
  have hglob : GlobK P β := fun g hgl => by
    obtain ⟨κ, e⟩ := cx.glob g hgl
    have : g < n2 := by
      rcases Nat.lt_or_ge bt g with h | h
      · rw [cx.gt g h] at e; cases e
      · have := cx.lt; omega
    exact ⟨κ, by rw [li.old g this]; exact e⟩
  refine hw1 ds β _ w li.hr hcv (by rw [put_size]; exact li.sz) (by rw [put_defers]; exact li.dfr) hglob _ fun a1 w1 ⟨β1, s1, r1⟩ => ?_
  show (Code.region p.i16 p.ops16 true).wp P _ a1 w1
  have hglob1 := hglob.le (s1.le li.hr)
  refine wp_mono (hw2 ds β1 a1 w1 r1 hglob1) fun ee a2 w2 hp => ?_
  obtain ⟨rfl, β2, s2, r2⟩ := hp
  have s := s1.trans li.hr s2
  have hk2 := cx.keeps li s.kept p4
  have hiter2 : w2.heap[ir]? = w.heap[ir]? := hk2 ir cx.irlt cx.ne3
  have sub : ∀ b x, ((Tr.set (path bt) (some (.cells ty m c exx sz)) .leaf).set (path bg) (some blg)).get (path b) = some x → h2.tr.get (path b) = some x ∧ (b = bt ∨ b = bg) := fun b x hb => by
    rw [get_set, get_set] at hb
    split at hb
    · rename_i e; injection hb with hb; rw [path_inj e, ← hb]; exact ⟨p5, .inr rfl⟩
    · split at hb
      · rename_i e; injection hb with hb; rw [path_inj e, ← hb]; exact ⟨p1, .inl rfl⟩
      · rw [get_leaf] at hb; cases hb
  have hr2 := s.hr
  have hnx : h.nx ≤ h2.nx := s.nx
  refine hQ β2 a2 w2 ⟨⟨fun b x hb => hr2.blk b x (sub b x hb).1, fun b b' x x' c κ κ' hb hb' => hr2.inj b b' x x' c κ κ' (sub b x hb).1 (sub b' x' hb').1, hr2.fresh, hr2.low⟩, fun b x hb => ?_, Nat.le_trans li.nx hnx, p4, fun b hb => ?_, fun b c κ hb e => ?_, s.kept.os.trans li.os, s.kept.tape.trans li.tape, s.kept.output.trans li.output, Nat.le_trans li.size s.kept.size, fun c hc h1 h2 => (hk2 c hc h1).trans (li.block c hc h1 h2), ?_, ?_, r2.size, r2.defers, ?_, li.sub, li.nod⟩
  · rcases (sub b x hb).2 with h | h
    · exact .inl h
    · exact .inr (by rw [h]; exact p3)
  · rw [s.old b (Nat.lt_of_lt_of_le hb li.nx)]; exact li.old b hb
  · by_cases hbn : b < h.nx
    · rw [s.old b hbn] at e; exact li.new b c κ hb e
    · rcases s.new b c κ (by omega) e with g | ⟨y, κ', -, g1, g2, -, g3⟩
      · exact .inl (Nat.le_trans li.size g)
      · by_cases hy : y < n2
        · rw [li.old y hy] at g3
          by_cases hyb : y = bt
          · rw [hyb, hbt] at g3; injection g3 with g3; injection g3 with g3 _; exact .inr g3.symm
          · rw [cx.gt y (by have := Nat.le_trans p4 g1; omega)] at g3; cases g3
        · exact li.new y c κ' (by omega) g3
  · have := r2.env 4 _ q4
    have hb2 : β2 bt = some (cbt, κ0) := by rw [s.old bt (Nat.lt_of_lt_of_le cx.lt li.nx), li.old bt cx.lt, hbt]
    simp only [con, hb2] at this
    injection this with this; exact this.symm
  · have := r2.env 60 _ q60
    rw [sgOf_it] at this
    injection this with this; exact this.symm
  · exact ⟨clock, Nat.le_refl _, by rw [hiter2, hit]; simp⟩
end
end Go.Ev
namespace Go.Ev
open Go.RowKit
open Go.ChangeMaps (setBlock)
variable {P : Program}
section
variable {N keep fuel : Nat} {p : NewParts} {ms : Array MapEntry} {clock cbm ir bt cbt n2 : Nat} {β0 : Bt} {w0 : World} {ds : List Deferred}
theorem leftOf_mem {es : Array MapEntry} {seen : List Nat} {e : MapEntry} : e ∈ (leftOf es seen.toArray).toList ↔ e ∈ es.toList ∧ e.born ∉ seen := by
  unfold leftOf
  simp
theorem loop_ok [Sl] (cx : Cx P N keep p ms clock cbm ir bt cbt n2 β0 w0) (hms : ms.size < 100000) {k : Hp → Ans} : ∀ (m i : Nat) (h : Hp), loopK P N keep fuel p bt n2 m i h k = .yes → i + m = ms.size → ∀ (vs : List MapEntry) (β : Bt) (a : Act) (w : World), vs.length = i →
    LInv ms clock cbm ir bt cbt n2 β0 w0 N ds vs β h a w → ∀ Q : Exit → Act → World → Prop, (∀ h' vs' β' a' w', k h' = .yes → vs'.length = ms.size → LInv ms clock cbm ir bt cbt n2 β0 w0 N ds vs' β' h' a' w' → Q .normal a' w') →
    Code.rounds P p.loopC (Exit.inBlock p.b2 Q) (m + 1) a w := by
  intro m
  induction m with
  | zero =>
    intro i h H him vs β a w hvs li Q hQ
    replace H : k h = .yes := H
    letI sg : Sg := sgOf ir vs
    obtain ⟨x, y, hops, hx1, hx2, hx3, hy1, hy2, hy3⟩ := cx.o14
    obtain ⟨last, hlast, hit⟩ := li.iter
    have hmap : w.heap[cbm]? = some (.map ms clock) := by
      rw [li.block cbm (Array.getElem?_eq_some_iff.1 cx.map).1 cx.ne1 cx.ne2]; exact cx.map
    show p.loopC.wp P _ a w
    unfold NewParts.loopC
    refine wp_seq (wp_region_list ?_)
    rw [hops]
    show if _ then _ else _
    rw [if_pos (wanted_none hx3 _ _)]
    left
    unfold Oper.wp
    rcases run_next_at (P := P) w x.type ir cbm clock last (vs.map (·.born)).toArray ms clock hit hmap cx.born hlast with ⟨-, hrun⟩ | ⟨e, he, -⟩
    · have hr1 : (execOp a.eval x).run P w = .ok (.value (.tuple #[.bool false])) w := by
        unfold execOp
        rw [hx1]
        show (do Pure.pure (Next.value (← Instr.next (a.tmps.getD 60 undef) false x.type))).run P w = _
        rw [li.t60, Sem.run_bind, hrun]; rfl
      rw [hr1]
      show wpList P p.ops14 _ [y] (a.put x.dst (.tuple #[.bool false])) w
      rw [hx2]
      show if _ then _ else _
      rw [if_pos (wanted_none hy3 _ _)]
      left
      unfold Oper.wp
      have h61 : 61 < a.tmps.size := Nat.lt_of_lt_of_le (by omega) (Nat.le_trans cx.n li.sz)
      have hr2 : (execOp (a.put (some 61) (.tuple #[.bool false])).eval y).run P w = .ok (.value (.bool false)) w := by
        unfold execOp
        rw [hy1]
        show (do Pure.pure (Next.value (← Instr.extract ((a.put (some 61) (.tuple #[.bool false])).tmps.getD 61 undef) 0))).run P w = _
        rw [getD_put h61]; rfl
      rw [hr2]
      show (Code.seq _ _).wp P _ ((a.put (some 61) (.tuple #[.bool false])).put y.dst (.bool false)) w
      rw [hy2]
      have h62 : 62 < (a.put (some 61) (.tuple #[.bool false])).tmps.size := by rw [put_size]; exact Nat.lt_of_lt_of_le (by omega) (Nat.le_trans cx.n li.sz)
      refine wp_seq (wp_cond (t := false) (getD_put h62) (wp_exit ?_))
      show Exit.inBlock p.b2 Q (.exit p.b2) _ _
      unfold Exit.inBlock
      dsimp only
      rw [if_pos rfl]
      refine hQ h vs β _ w H (by omega) { li with t4 := ?_, t60 := ?_, sz := by rw [put_size, put_size]; exact li.sz, dfr := by rw [put_defers, put_defers]; exact li.dfr }
      · rw [getD_put_ne (by decide), getD_put_ne (by decide)]; exact li.t4
      · rw [getD_put_ne (by decide), getD_put_ne (by decide)]; exact li.t60
    · exfalso
      rw [leftOf_mem] at he
      have := List.Nodup.length_le_of_subset (l₁ := (e.born :: vs.map (·.born))) (l₂ := ms.toList.map (·.born)) (List.nodup_cons.2 ⟨he.2, li.nod⟩) (fun z hz => by
        rcases List.mem_cons.1 hz with rfl | hz
        · exact List.mem_map.2 ⟨e, he.1, rfl⟩
        · obtain ⟨q, hq, rfl⟩ := List.mem_map.1 hz
          exact List.mem_map.2 ⟨q, li.sub q hq, rfl⟩)
      simp at this
      omega
  | succ m ih =>
    intro i h H him vs β a w hvs li Q hQ
    replace H : envSK bt (fun env => roundK P N keep fuel p bt n2 i env h fun h' => fNat (Nat.succ i) fun i' => loopK P N keep fuel p bt n2 m i' h' k) = .yes := H
    rw [envSK_eq] at H
    letI sg : Sg := sgOf ir vs
    obtain ⟨x, y, hops, hx1, hx2, hx3, hy1, hy2, hy3⟩ := cx.o14
    obtain ⟨last, hlast, hit⟩ := li.iter
    have hmap : w.heap[cbm]? = some (.map ms clock) := by
      rw [li.block cbm (Array.getElem?_eq_some_iff.1 cx.map).1 cx.ne1 cx.ne2]; exact cx.map
    show p.loopC.wp P _ a w
    unfold NewParts.loopC
    refine wp_seq (wp_region_list ?_)
    rw [hops]
    show if _ then _ else _
    rw [if_pos (wanted_none hx3 _ _)]
    left
    unfold Oper.wp
    have h61 : 61 < a.tmps.size := Nat.lt_of_lt_of_le (by omega) (Nat.le_trans cx.n li.sz)
    rcases run_next_at (P := P) w x.type ir cbm clock last (vs.map (·.born)).toArray ms clock hit hmap cx.born hlast with ⟨h0, -⟩ | ⟨e, he, w', hw', hrun⟩
    · exfalso
      have hall : ∀ z ∈ ms.toList.map (·.born), z ∈ vs.map (·.born) := fun z hz => by
        obtain ⟨q, hq, rfl⟩ := List.mem_map.1 hz
        refine Classical.byContradiction fun hn => ?_
        have : q ∈ (leftOf ms (vs.map (·.born)).toArray).toList := leftOf_mem.2 ⟨hq, hn⟩
        rw [Array.eq_empty_of_size_eq_zero h0] at this
        cases this
      have := List.Nodup.length_le_of_subset cx.nod hall
      simp at this
      omega
    · have hr1 : (execOp a.eval x).run P w = .ok (.value (.tuple #[.bool true, e.key, e.val])) (setBlock w' ir (.mapIter (some cbm) clock ((vs.map (·.born)).toArray.push e.born) clock)) := by
        unfold execOp
        rw [hx1]
        show (do Pure.pure (Next.value (← Instr.next (a.tmps.getD 60 undef) false x.type))).run P w = _
        rw [li.t60, Sem.run_bind, hrun]; rfl
      rw [hr1]
      generalize hw1 : setBlock w' ir (.mapIter (some cbm) clock ((vs.map (·.born)).toArray.push e.born) clock) = w1
      have hheap : w'.heap = w.heap := by rcases hw' with rfl | rfl <;> rfl
      have hoth : ∀ c, c ≠ ir → w1.heap[c]? = w.heap[c]? := fun c hc => by
        rw [← hw1]
        show (w'.heap.setIfInBounds ir _)[c]? = _
        rw [Array.getElem?_setIfInBounds, if_neg (fun h => hc h.symm), hheap]
      have hirl : ir < w.heap.size := Nat.lt_of_lt_of_le cx.irlt li.size
      have hir : w1.heap[ir]? = some (.mapIter (some cbm) clock ((vs.map (·.born)).toArray.push e.born) clock) := by
        rw [← hw1]
        show (w'.heap.setIfInBounds ir _)[ir]? = _
        rw [hheap, Array.getElem?_setIfInBounds, if_pos rfl, if_pos hirl]
      have hsz1 : w1.heap.size = w.heap.size := by
        rw [← hw1]
        show (w'.heap.setIfInBounds ir _).size = _
        rw [Array.size_setIfInBounds, hheap]
      have h3 : w1.os = w.os ∧ w1.tape = w.tape ∧ w1.output = w.output := by
        rw [← hw1]
        rcases hw' with rfl | rfl <;> exact ⟨rfl, rfl, rfl⟩
      show wpList P p.ops14 _ [y] (a.put x.dst (.tuple #[.bool true, e.key, e.val])) w1
      rw [hx2]
      show if _ then _ else _
      rw [if_pos (wanted_none hy3 _ _)]
      left
      unfold Oper.wp
      have hr2 : (execOp (a.put (some 61) (.tuple #[.bool true, e.key, e.val])).eval y).run P w1 = .ok (.value (.bool true)) w1 := by
        unfold execOp
        rw [hy1]
        show (do Pure.pure (Next.value (← Instr.extract ((a.put (some 61) (.tuple #[.bool true, e.key, e.val])).tmps.getD 61 undef) 0))).run P w1 = _
        rw [getD_put h61]; rfl
      rw [hr2]
      show (Code.seq _ _).wp P _ ((a.put (some 61) (.tuple #[.bool true, e.key, e.val])).put y.dst (.bool true)) w1
      rw [hy2]
      have h62 : 62 < (a.put (some 61) (.tuple #[.bool true, e.key, e.val])).tmps.size := by rw [put_size]; exact Nat.lt_of_lt_of_le (by omega) (Nat.le_trans cx.n li.sz)
      refine wp_seq (wp_cond (t := true) (getD_put h62) (wp_skip ?_))
      show (Code.block _ _).wp P _ _ w1
      rw [leftOf_mem] at he
      obtain ⟨κ0, hbt⟩ := cx.at_
      have li1 : LInv ms clock cbm ir bt cbt n2 β0 w0 N ds (vs ++ [e]) β h ((a.put (some 61) (.tuple #[.bool true, e.key, e.val])).put (some 62) (.bool true)) w1 := by
        refine ⟨@HR.same (sgOf ir (vs ++ [e])) β h w w1 (HR.sg (sgOf_le ir vs e) li.hr) fun b z c κ hb hc => hoth c fun hcir => ?_, li.dom, li.nx, li.lo, li.old, li.new, h3.1.trans li.os, h3.2.1.trans li.tape, h3.2.2.trans li.output, by rw [hsz1]; exact li.size, fun c hc h1 h2 => (hoth c h2).trans (li.block c hc h1 h2), ?_, ?_, by rw [put_size, put_size]; exact li.sz, by rw [put_defers, put_defers]; exact li.dfr, ⟨clock, Nat.le_refl _, by rw [hir]; simp⟩, fun z hz => ?_, ?_⟩
        · rcases li.dom b z hb with rfl | hge
          · rw [li.old b cx.lt, hbt] at hc; injection hc with hc; injection hc with hc _; exact cx.ne3 (hcir.symm.trans hc.symm)
          · rcases li.new b c κ hge hc with h | h
            · have := cx.irlt; omega
            · exact cx.ne3 (hcir.symm.trans h)
        · rw [getD_put_ne (by decide), getD_put_ne (by decide)]; exact li.t4
        · rw [getD_put_ne (by decide), getD_put_ne (by decide)]; exact li.t60
        · rcases List.mem_append.1 hz with hz | hz
          · exact li.sub z hz
          · rw [List.mem_singleton.1 hz]; exact he.1
        · rw [List.map_append, List.nodup_append]
          refine ⟨li.nod, by simp, fun q hq q' hq' e' => ?_⟩
          simp at hq'
          subst hq'
          subst e'
          exact he.2 hq
      obtain ⟨h', H', hbody⟩ := body_ok cx H hvs (by omega) li1 hir
      rw [fNat_eq] at H'
      refine hbody _ fun β' a' w' li' => ?_
      show Code.rounds P p.loopC (Exit.inBlock p.b2 Q) (m + 1) a' w'
      exact ih (i + 1) h' H' (by omega) (vs ++ [e]) β' a' w' (by simp; omega) li' Q hQ
end
end Go.Ev
end
section
namespace Go.Ev
open Go.RowKit
variable {P : Program}
structure Cy (P : Program) (N keep : Nat) (p : NewParts) : Prop where
  hm : P.follows .mixedOrders = true
  o14 : ∃ x y, p.ops14.toList = [x, y] ∧ x.op = .next (.tmp 60) false ∧ x.dst = some 61 ∧ x.guard = none ∧ y.op = .extract (.tmp 61) 0 ∧ y.dst = some 62 ∧ y.guard = none
  o15 : ∃ x l, p.ops15.toList = x :: l ∧ x.op = .entry (.tmp 60) ∧ x.dst = some 63 ∧ x.guard = none
  n : 64 ≤ N
  dst15 : ∀ o ∈ p.ops15.toList, ∀ d, o.dst = some d → d < N
section
variable {N keep fuel : Nat} {p : NewParts} {bt n2 : Nat}
theorem roundK_ex [Sl] (cy : Cy P N keep p) (k4 : inMask keep 4 = true) (k60 : inMask keep 60 = true) (k63 : inMask keep 63 = false) {i : Nat} {h : Hp} {k : Hp → Ans} (H : roundK P N keep fuel p bt n2 i (envS bt) h k = .yes) : ∃ h', k h' = .yes := by
  letI sg : Sg := sgOf 0 []
  obtain ⟨x, l, hops, hop, hdst, hg⟩ := cy.o15
  have hK0 : EnvK keep (envS bt) := fun t ht => by
    cases hget : (envS bt).get (path t) with
    | none => rfl
    | some av =>
      rcases envS_get hget with ⟨rfl, -⟩ | ⟨rfl, -⟩
      · rw [k4] at ht; cases ht
      · rw [k60] at ht; cases ht
  have pl0 : Pl P keep (x :: l) [] 0 [] (envS bt) (fun t => (envS bt).get (path t)) := ⟨⟨rfl, fun t av h => h⟩, hK0, fun t av h => h, fun e he => by cases he⟩
  have hdn : dstP keep x = none := by unfold dstP; rw [hdst]; dsimp only; rw [k63]
  have pl1 := pl0.push (.tup [.sym (4 * i), .agg [.sym (4 * i + 1), .sym (4 * i + 2), .sym (4 * i + 3)]])
  rw [hdn, hdst] at pl1
  unfold roundK at H
  rw [hops] at H
  obtain ⟨env1, h1, H1, hK1, hw1⟩ := seq_sound (noCall_sound (P := P)) (N := N) (ops := p.ops15) (bf := (x :: l).map fun _ => 0) l (l.map fun _ => 0) [(63, .inl 0)] 1 1 [_] (envS bt) _ h _ (by simp) (fun o ho => cy.dst15 o (by rw [hops]; exact List.mem_cons_of_mem _ ho)) pl1 (by rw [hops]; exact H)
  obtain ⟨ex, env2, h2, H2, hK2, hw2⟩ := run_sound (regOK cy.hm noCall noCall_sound N keep) fuel (.code (.region p.i16 p.ops16 true)) env1 h1 _ H1 hK1
  obtain ⟨rfl, H3⟩ := onNormal_no H2
  obtain ⟨H4, q4, q60⟩ := stillK_yes H3
  obtain ⟨ty, m, c, exx, sz, bg, off, len, ex2, d, blg, p1, p2, p3, p4, p5, H5⟩ := pickK_yes H4
  exact ⟨_, H5⟩
theorem loopK_ex [Sl] (cy : Cy P N keep p) (k4 : inMask keep 4 = true) (k60 : inMask keep 60 = true) (k63 : inMask keep 63 = false) : ∀ (m i : Nat) (h : Hp) (k : Hp → Ans), loopK P N keep fuel p bt n2 m i h k = .yes → ∃ h', k h' = .yes := by
  intro m
  induction m with
  | zero => exact fun i h k H => ⟨h, H⟩
  | succ m ih =>
    intro i h k H
    replace H : envSK bt (fun env => roundK P N keep fuel p bt n2 i env h fun h' => fNat (Nat.succ i) fun i' => loopK P N keep fuel p bt n2 m i' h' k) = .yes := H
    rw [envSK_eq] at H
    obtain ⟨h', H'⟩ := roundK_ex cy k4 k60 k63 H
    rw [fNat_eq] at H'
    exact ih _ _ _ H'
theorem symsK_yes [Sg] {c : Tr AV} {x : Ans} : ∀ (m j : Nat), symsK c x m j = .yes → x = .yes ∧ ∀ q, j ≤ q → q < j + m → c.get (path (3 * q)) = some (.sym (4 * q + 1)) ∧ c.get (path (3 * q + 1)) = some (.sym (4 * q + 2)) ∧ c.get (path (3 * q + 2)) = some (.sym (4 * q + 3)) := by
  intro m
  induction m with
  | zero => exact fun j H => ⟨H, fun q h1 h2 => by omega⟩
  | succ m ih =>
    intro j H
    replace H : (c.getP (path (3 * j)) (.no 257) fun a => c.getP (path (3 * j + 1)) (.no 257) fun b => c.getP (path (3 * j + 2)) (.no 257) fun d => (match a, b, d with
      | .sym a, .sym b, .sym d => cnd (Nat.beq a (4 * j + 1) && Nat.beq b (4 * j + 2) && Nat.beq d (4 * j + 3)) (fNat (Nat.succ j) (symsK c x m)) (.no 258)
      | _, _, _ => .no 259 : Ans)) = .yes := H
    obtain ⟨a, ha, H⟩ := getP_yes H
    obtain ⟨b, hb, H⟩ := getP_yes H
    obtain ⟨d, hd, H⟩ := getP_yes H
    split at H
    · rename_i a b d
      obtain ⟨h1, H⟩ := cnd_yes H
      rw [fNat_eq] at H
      rw [Bool.and_eq_true, Bool.and_eq_true] at h1
      obtain ⟨⟨e1, e2⟩, e3⟩ := h1
      obtain ⟨hx, hr⟩ := ih _ H
      refine ⟨hx, fun q g1 g2 => ?_⟩
      by_cases hq : q = j
      · subst hq
        rw [ha, hb, hd, Nat.eq_of_beq_eq_true e1, Nat.eq_of_beq_eq_true e2, Nat.eq_of_beq_eq_true e3]
        exact ⟨rfl, rfl, rfl⟩
      · exact hr q (by omega) (by omega)
    · cases H
theorem cellsK_yes [Sg] {n : Nat} {c : Tr AV} : ∀ (m j : Nat) (k : List AV → Ans), cellsK n c m j k = .yes → ∃ l, l.length = m ∧ k l = .yes ∧ ∀ q a, l[q]? = some a → c.get (path (j + q)) = some a ∧ (j + q = 2 ∨ lowA1 n a = true) := by
  intro m
  induction m with
  | zero => exact fun j k H => ⟨[], rfl, H, fun q a h => by simp at h⟩
  | succ m ih =>
    intro j k H
    replace H : (c.getP (path j) (.no 267) fun a => cnd (Nat.beq j 2 || lowA1 n a) (fNat (Nat.succ j) fun j' => cellsK n c m j' fun r => k (a :: r)) (.no 268)) = .yes := H
    obtain ⟨a, ha, H⟩ := getP_yes H
    obtain ⟨h1, H⟩ := cnd_yes H
    rw [fNat_eq] at H
    obtain ⟨l, hl, hk, hr⟩ := ih _ _ H
    refine ⟨a :: l, by simp [hl], hk, fun q b hq => ?_⟩
    cases q with
    | zero =>
      injection hq with hq
      subst hq
      refine ⟨ha, ?_⟩
      rw [Bool.or_eq_true] at h1
      rcases h1 with h1 | h1
      · exact .inl (Nat.eq_of_beq_eq_true h1)
      · exact .inr h1
    | succ q =>
      have := hr q b hq
      rw [show j + (q + 1) = Nat.succ j + q by omega]
      exact this
structure IsRes (n2 bt cnt : Nat) (h : Hp) (x : Res) : Prop where
  tree : ∃ c, h.tr.get (path bt) = some (.cells x.ty x.l.length c true x.sz) ∧ ∀ q a, x.l[q]? = some a → c.get (path q) = some a ∧ (q = 2 ∨ lowA1 n2 a = true)
  lo : bt ≤ h.lo
  slice : ∀ a, x.l[2]? = some a → a = .slice x.bg 0 cnt false 0
  bg : ∃ c, h.tr.get (path x.bg) = some (.cells x.e3 (3 * cnt) c false 3) ∧ ∀ q, q < cnt → c.get (path (3 * q)) = some (.sym (4 * q + 1)) ∧ c.get (path (3 * q + 1)) = some (.sym (4 * q + 2)) ∧ c.get (path (3 * q + 2)) = some (.sym (4 * q + 3))
  ge : n2 ≤ x.bg
  lt : x.bg < x.n4
  nx : x.n4 = h.nx
theorem resK2_yes [Sg] {cnt : Nat} {h : Hp} {k : Res → Ans} (H : resK2 n2 bt cnt h k = .yes) : ∃ x, IsRes n2 bt cnt h x ∧ k x = .yes := by
  obtain ⟨t4, n4, low4⟩ := h
  unfold resK2 at H
  obtain ⟨bl, h1, H⟩ := getP_yes H
  split at H
  · rename_i ty m c ex sz
    obtain ⟨h2, H⟩ := cnd_yes H
    rw [Bool.and_eq_true] at h2
    obtain ⟨l, hl, H, hr⟩ := cellsK_yes _ _ _ H
    obtain ⟨s, h3, H⟩ := getP_yes H
    split at H
    · rename_i bg len
      obtain ⟨blg, h4, H⟩ := getP_yes H
      split at H
      · rename_i e3 m3 c3 ex3 sz3
        obtain ⟨h5, H⟩ := cnd_yes H
        simp only [Bool.and_eq_true] at h5
        obtain ⟨⟨⟨⟨⟨g1, g2⟩, g3⟩, g4⟩, g5⟩, g6⟩ := h5
        obtain ⟨H7, hs⟩ := symsK_yes _ _ H
        have e1 : ex3 = false := by simpa using g1
        subst e1
        have e2 := Nat.eq_of_beq_eq_true g2
        have e3' := Nat.eq_of_beq_eq_true g3
        have e4 := Nat.eq_of_beq_eq_true g4
        subst e2 e3' e4
        refine ⟨⟨ty, sz, l, bg, e3, n4⟩, ⟨⟨c, ?_, fun q a hq => ?_⟩, Nat.le_of_ble_eq_true h2.2, fun a ha => ?_, ⟨c3, h4, fun q hq => hs q (Nat.zero_le _) (by omega)⟩, Nat.le_of_ble_eq_true g5, Nat.le_of_ble_eq_true g6, rfl⟩, H7⟩
        · show t4.get (path bt) = some (.cells ty l.length c true sz)
          rw [hl, h1, h2.1]
        · have := hr q a hq
          rwa [Nat.zero_add] at this
        · have := (hr 2 a ha).1
          rw [Nat.zero_add, h3] at this
          injection this with this; exact this.symm
      · cases H
    · cases H
  · cases H
theorem sameR_eq [Sg] [Sl] {x y : Res} (h : sameR x y = true) : x = y := by
  obtain ⟨a, b, c, d, e, f⟩ := x
  obtain ⟨a', b', c', d', e', f'⟩ := y
  unfold sameR at h
  simp only [Bool.and_eq_true] at h
  obtain ⟨⟨⟨⟨⟨h1, h2⟩, h3⟩, h4⟩, h5⟩, h6⟩ := h
  rw [Nat.eq_of_beq_eq_true h1, Nat.eq_of_beq_eq_true h2, eqAL_eq h3, Nat.eq_of_beq_eq_true h4, Nat.eq_of_beq_eq_true h5, Nat.eq_of_beq_eq_true h6]
theorem upon_then {o : Oper} {a : Act} {w : World} {next next' : Act → World → Prop} {Q Q' : Exit → Act → World → Prop} (hn : ∀ a w, next a w → next' a w) (hp : ∀ ch w, Q (.panic ch) a w → Q' (.panic ch) a w) (hl : LetsOut Q → LetsOut Q') (h : o.wp P a w next Q) : o.wp P a w next' Q' := by
  unfold Oper.wp at h ⊢
  revert h
  generalize (execOp a.eval o).run P w = r
  intro h
  unfold Oper.upon at h ⊢
  split at h
  · exact hn _ _ h
  · exact hn _ _ h
  · exact hn _ _ h
  · refine h.mono fun e w2 he => ?_
    cases e with
    | returned v => exact hn _ _ he
    | panicked ch => exact hp _ _ he
    | outgrown => exact hl he
  · exact h.mono fun v w2 he => hn _ _ he
  · exact hp _ _ h
  · cases h
theorem wpList_cut {ops : Array Oper} {Q : Exit → Act → World → Prop} {tail : List Oper} : ∀ {l : List Oper} {a : Act} {w : World},
    wpList P ops (fun e a w => match e with | .normal => wpList P ops Q tail a w | e => Q e a w) l a w → wpList P ops Q (l ++ tail) a w
  | [], a, w, h => h
  | o :: l, a, w, h => by
    unfold wpList at h
    rw [List.cons_append]
    unfold wpList
    split at h
    · rename_i hw
      rw [if_pos hw]
      rcases h with h | ⟨h1, h2⟩
      · exact .inl (upon_then (fun a w h => wpList_cut h) (fun ch w h => h) (fun h => h) h)
      · exact .inr ⟨h1, h2⟩
    · rename_i hw
      rw [if_neg hw]
      exact wpList_cut h
end
end Go.Ev
namespace Go.Ev
open Go.RowKit
variable {P : Program}
theorem blt_of {x y : Nat} (h : Nat.blt x y = true) : x < y := Nat.le_of_ble_eq_true h
theorem blt_not {x y : Nat} (h : ¬ x < y) : Nat.blt x y = false := by
  rw [Bool.eq_false_iff]; exact fun hb => h (blt_of hb)
theorem ltN_asymm : ∀ {x y : List Nat}, ltN x y = true → ltN y x = false
  | [], [], h => by cases h
  | [], _ :: _, h => rfl
  | _ :: _, [], h => by cases h
  | x :: xs, y :: ys, h => by
    unfold ltN at h ⊢
    rw [Bool.or_eq_true] at h
    rw [Bool.or_eq_false_iff]
    rcases h with h | h
    · have h1 : x < y := blt_of h
      refine ⟨blt_not (by omega), ?_⟩
      rw [Bool.and_eq_false_iff]; left
      rw [Bool.eq_false_iff]; exact fun hb => by have := Nat.eq_of_beq_eq_true hb; omega
    · rw [Bool.and_eq_true] at h
      have h1 := Nat.eq_of_beq_eq_true h.1
      subst h1
      refine ⟨blt_not (by omega), ?_⟩
      rw [Bool.and_eq_false_iff]; right; exact ltN_asymm h.2
theorem insT_perm (x : NT) : ∀ l : List NT, (insT x l).Perm (x :: l)
  | [] => .refl _
  | y :: l => by
    unfold insT
    cases ltN x.p y.p with
    | true => exact .refl _
    | false => exact ((insT_perm x l).cons y).trans (.swap x y l)
theorem srtT_perm : ∀ l : List NT, (srtT l).Perm l
  | [] => .refl _
  | x :: l => (insT_perm x (srtT l)).trans ((srtT_perm l).cons x)
theorem riseB_pw : ∀ {l : List NT}, riseB l = true → l.Pairwise fun x y => ltN x.p y.p = true
  | [], _ => .nil
  | x :: l, h => by
    unfold riseB at h
    rw [Bool.and_eq_true] at h
    exact .cons (fun y hy => List.all_eq_true.1 h.1 y hy) (riseB_pw h.2)
abbrev Row3 := List Nat × Value × Value
theorem rows_eq {nts : List NT} {f : NT → Row3} (hf : ∀ x, (f x).1 = x.p) (hr : riseB (srtT nts) = true) {d' : List Row3} (hp : d'.Perm (nts.map f)) (hs : d'.Pairwise fun x y => ltN y.1 x.1 = false) : d' = (srtT nts).map f := by
  have pw := riseB_pw hr
  have hp2 : d'.Perm ((srtT nts).map f) := hp.trans ((srtT_perm nts).map f).symm
  refine List.Perm.eq_of_pairwise (le := fun x y => ltN y.1 x.1 = false) ?_ hs ?_ hp2
  · intro a b ha hb h1 h2
    have ha' := hp2.mem_iff.1 ha
    obtain ⟨x, hx, rfl⟩ := List.mem_map.1 ha'
    obtain ⟨y, hy, rfl⟩ := List.mem_map.1 hb
    rw [hf, hf] at h1 h2
    by_cases e : x = y
    · rw [e]
    · exfalso
      have : ∀ {l : List NT}, (l.Pairwise fun x y => ltN x.p y.p = true) → x ∈ l → y ∈ l → ltN x.p y.p = true ∨ ltN y.p x.p = true := by
        intro l hl
        induction hl with
        | nil => intro h; cases h
        | cons h hl ih =>
          intro h3 h4
          rcases List.mem_cons.1 h3 with e3 | h3
          · rcases List.mem_cons.1 h4 with e4 | h4
            · exact absurd (e3.trans e4.symm) e
            · rw [e3]; exact .inl (h _ h4)
          · rcases List.mem_cons.1 h4 with e4 | h4
            · rw [e4]; exact .inr (h _ h3)
            · exact ih h3 h4
      rcases this pw hx hy with h | h
      · rw [h] at h2; cases h2
      · rw [h] at h1; cases h1
  · rw [List.pairwise_map]
    exact pw.imp fun {x y} h => by rw [hf, hf]; exact ltN_asymm h
structure NtR [Sg] (β : Bt) (x : NT) (m : MapEntry) : Prop where
  key : flatV m.key = true
  val : ∃ b c, m.val = .agg #[.string (bytesOf x.p), b, c] ∧ con β x.b = some b ∧ con β x.c = some c ∧ flatV b = true ∧ flatV c = true
  all : x.p.all (· < 256) = true
  a : ∃ n, x.a = .str n x.p ∧ con β x.a = some (.string (bytesOf x.p))
  fb : flatB.flat1 x.b = true
  fc : flatB.flat1 x.c = true
inductive All2 {α β : Type} (R : α → β → Prop) : List α → List β → Prop
  | nil : All2 R [] []
  | cons {a b l m} : R a b → All2 R l m → All2 R (a :: l) (b :: m)
theorem All2.len {α β : Type} {R : α → β → Prop} {l : List α} {m : List β} (h : All2 R l m) : l.length = m.length := by
  induction h with
  | nil => rfl
  | cons _ _ ih => simp [ih]
theorem All2.get {α β : Type} {R : α → β → Prop} {l : List α} {m : List β} (h : All2 R l m) : ∀ {i : Nat} {b : β}, m[i]? = some b → ∃ a, l[i]? = some a ∧ R a b := by
  induction h with
  | nil => intro i b h; simp at h
  | cons hr h ih =>
    intro i b hb
    cases i with
    | zero => injection hb with hb; subst hb; exact ⟨_, rfl, hr⟩
    | succ i => exact ih hb
theorem All2.mem {α β : Type} {R : α → β → Prop} {l : List α} {m : List β} (h : All2 R l m) {b : β} (hb : b ∈ m) : ∃ a, a ∈ l ∧ R a b := by
  obtain ⟨i, hi⟩ := List.mem_iff_getElem?.1 hb
  obtain ⟨a, h1, h2⟩ := h.get hi
  exact ⟨a, List.mem_of_getElem? h1, h2⟩
theorem All2.perm {α β : Type} {R : α → β → Prop} {m m' : List β} (hp : m.Perm m') : ∀ {l : List α}, All2 R l m → ∃ l', l'.Perm l ∧ All2 R l' m' := by
  induction hp with
  | nil => exact fun h => ⟨_, .refl _, h⟩
  | cons x _ ih =>
    intro l h
    cases h with
    | cons hr h =>
      obtain ⟨l', h1, h2⟩ := ih h
      exact ⟨_, h1.cons _, .cons hr h2⟩
  | swap x y l0 =>
    intro l h
    cases h with
    | cons hr h =>
      cases h with
      | cons hr2 h => exact ⟨_, .swap _ _ _, .cons hr2 (.cons hr h)⟩
  | trans _ _ ih1 ih2 =>
    intro l h
    obtain ⟨l', h1, h2⟩ := ih1 h
    obtain ⟨l'', h3, h4⟩ := ih2 h2
    exact ⟨l'', h3.trans h1, h4⟩
theorem ntL_ents [Sg] {β : Bt} : ∀ {es : List (AV × AV × Nat)} {ms : List MapEntry} {nts : List NT}, EntR β es ms → ntL es = some nts → All2 (NtR β) nts ms
  | [], [], nts, _, h => by unfold ntL at h; injection h with h; subst h; exact .nil
  | [], _ :: _, nts, h, _ => h.elim
  | _ :: _, [], nts, h, _ => h.elim
  | e :: es, m :: ms, nts, ⟨h1, h2, h3, h4⟩, h => by
    unfold ntL at h
    split at h
    · rename_i n l x xs q1 q2 q3
      injection h with h
      subst h
      refine .cons ?_ (ntL_ents h4 q3)
      unfold ntOf at q2
      split at q2
      · rename_i n2 l2 b c q4
        rw [q4] at h2
        cases hfl : (flatB.flat1 b && flatB.flat1 c) with
        | false => rw [hfl] at q2; cases q2
        | true =>
          rw [hfl] at q2
          injection q2 with q2
          subst q2
          rw [Bool.and_eq_true] at hfl
          simp only [con, conL, Option.bind_eq_some_iff, Option.map_eq_some_iff] at h2
          obtain ⟨vs, ⟨va, ha, vs1, ⟨vb, hb, vs2, ⟨vc, hc, vs3, hd, rfl⟩, rfl⟩, rfl⟩, h2⟩ := h2
          split at ha
          · rename_i hstr
            injection ha with ha
            subst ha
            injection hd with hd
            subst hd
            split at h2
            · rename_i hall
              injection h2 with h2
              simp only [List.all_cons, Bool.and_eq_true] at hall
              rw [q1] at h1
              refine ⟨?_, ⟨vb, vc, h2.symm, hb, hc, hall.2.1, hall.2.2.1⟩, hstr.2, ⟨n2, rfl, by simp only [con]; rw [if_pos hstr]⟩, hfl.1, hfl.2⟩
              simp only [con] at h1
              split at h1
              · injection h1 with h1; rw [← h1]; rfl
              · cases h1
            · cases h2
          · cases ha
      · cases q2
    · cases h
end Go.Ev
namespace Go.Ev
open Go.RowKit
variable {P : Program}
def SortAt (P : Program) (fs fc : Nat) : Prop := ∀ (w : World) (blk cap : Nat) (d : List Row3) (cs : Array Value) (e : TypeId) (fz : Nat × Nat),
  w.heap[blk]? = some (.cells cs e fz) → (∀ i, i < cs.size → ¬ (fz.1 ≤ i ∧ i < fz.2)) → d.length < 100000 → d.length ≤ cap → cs.size = cap * 3 →
  (∀ x ∈ d, x.1.all (· < 256) = true ∧ flatV x.2.1 = true ∧ flatV x.2.2 = true) →
  (∀ q x, d[q]? = some x → cs[3 * q]? = some (.string (bytesOf x.1)) ∧ cs[3 * q + 1]? = some x.2.1 ∧ cs[3 * q + 2]? = some x.2.2) →
  (callFunc fs #[.slice (some ⟨blk, 0, none⟩) d.length cap, .func (.func fc) #[] #[]]).run P w = .ok (.enter fs #[.slice (some ⟨blk, 0, none⟩) d.length cap, .func (.func fc) #[] #[]]) w ∧
  Calls P fs #[.slice (some ⟨blk, 0, none⟩) d.length cap, .func (.func fc) #[] #[]] w fun ee w' => ee = .returned (.tuple #[]) ∧ ∃ (d' : List Row3) (cs' : Array Value), d'.Perm d ∧ d'.Pairwise (fun x y => ltN y.1 x.1 = false) ∧
    w'.os = w.os ∧ w'.tape = w.tape ∧ w'.output = w.output ∧ w.heap.size ≤ w'.heap.size ∧ (∀ c, c < w.heap.size → c ≠ blk → w'.heap[c]? = w.heap[c]?) ∧
    w'.heap[blk]? = some (.cells cs' e fz) ∧ cs'.size = cs.size ∧ ∀ q x, d'[q]? = some x → cs'[3 * q]? = some (.string (bytesOf x.1)) ∧ cs'[3 * q + 1]? = some x.2.1 ∧ cs'[3 * q + 2]? = some x.2.2
structure Cz (P : Program) (N keep : Nat) (p : NewParts) (fs fc : Nat) : Prop where
  dst17 : ∀ o ∈ p.ops17.toList.dropLast, ∀ d, o.dst = some d → d < N
  o17 : ∃ o args ats, p.ops17.toList = p.ops17.toList.dropLast ++ [o] ∧ o.op = .call ⟨.value (.func fs), args, ats⟩ ∧ args.toList = [.tmp 78, .func fc] ∧ o.guard = none ∧ o.dst ≠ some 4
  sort : SortAt P fs fc
section
variable {N keep fuel : Nat} {p : NewParts} {bt n2 cnt : Nat} {x : Res} {fs fc : Nat}
noncomputable def h17 (bt : Nat) (x : Res) : Hp := .mk (Tr.set (path bt) (some (.cells x.ty x.l.length (putL x.l 0 .leaf) true x.sz)) .leaf) x.n4 x.n4
theorem pre17_yes [Sg] [Sl] (cz : Cz P N keep p fs fc) (k4 : inMask keep 4 = true) (k60 : inMask keep 60 = true) {K : Ans} (H : pre17 P keep p bt x cnt K = .yes) :
    K = .yes ∧ (x.bg < x.n4 → bt < x.n4 → ∀ ds β a w, HR β (h17 bt x) w → CvR β (fun t => (envS bt).get (path t)) a.tmps → N ≤ a.tmps.size → a.defers = ds → GlobK P β → ∀ Q : Exit → Act → World → Prop,
      (∀ a' w', con β (.slice x.bg 0 cnt false 0) = some (a'.tmps.getD 78 undef) → con β (.ptr bt 0) = some (a'.tmps.getD 4 undef) → N ≤ a'.tmps.size → a'.defers = ds → w'.os = w.os → w'.tape = w.tape → w'.output = w.output → w.heap.size ≤ w'.heap.size → (∀ c, c < w.heap.size → w'.heap[c]? = w.heap[c]?) → Q .normal a' w') →
      wpList P p.ops17 Q p.ops17.toList.dropLast a w) := by
  unfold pre17 at H
  rw [writeL_eq, setP_eq, envSK_eq] at H
  have hK0 : EnvK (Nat.lor keep (Nat.pow 2 78)) (envS bt) := fun t ht => by
    rw [inMask_lor, Bool.or_eq_false_iff] at ht
    cases hget : (envS bt).get (path t) with
    | none => rfl
    | some av =>
      rcases envS_get hget with ⟨rfl, -⟩ | ⟨rfl, -⟩
      · rw [k4] at ht; cases ht.1
      · rw [k60] at ht; cases ht.1
  have pl0 : Pl P (Nat.lor keep (Nat.pow 2 78)) p.ops17.toList.dropLast [] 0 [] (envS bt) (fun t => (envS bt).get (path t)) := ⟨⟨rfl, fun t av h => h⟩, hK0, fun t av h => h, fun e he => by cases he⟩
  obtain ⟨env1, h1, H1, hK1, hw1⟩ := seq_sound (noCall_sound (P := P)) (N := N) (ops := p.ops17) (bf := p.ops17.toList.map fun _ => 0) p.ops17.toList.dropLast (p.ops17.toList.dropLast.map fun _ => 0) [] 0 0 [] (envS bt) _ (h17 bt x) _ (by simp) cz.dst17 pl0 H
  obtain ⟨t1, n, low⟩ := h1
  obtain ⟨h2, H2⟩ := cnd_yes H1
  obtain ⟨s, h3, H3⟩ := getP_yes H2
  obtain ⟨h4, H4⟩ := cnd_yes H3
  obtain ⟨y, h5, H5⟩ := getP_yes H4
  obtain ⟨h6, H6⟩ := cnd_yes H5
  rw [Bool.and_eq_true] at h2
  have e1 := Nat.eq_of_beq_eq_true h2.1
  have e2 := Nat.eq_of_beq_eq_true h2.2
  subst e1 e2
  obtain rfl := eqA1_eq h4
  obtain rfl := eqA1_eq h6
  refine ⟨H6, fun hbg hbt ds β a w hr hc hN hds hg Q hQ => hw1 ds β a w hr hc hN hds hg Q fun a' w' ⟨β', s, r⟩ => ?_⟩
  have hold : ∀ b, b < x.n4 → β' b = β b := fun b hb => s.old b hb
  refine hQ a' w' ?_ ?_ r.size r.defers s.kept.os s.kept.tape s.kept.output s.kept.size fun c hc => s.kept.block c hc fun b κ hb e => ?_
  · have := r.env 78 _ h3
    rw [← this]
    simp only [con, hold _ hbg]
  · have := r.env 4 _ h5
    rw [← this]
    simp only [con, hold _ hbt]
  · have := hr.fresh b hb
    rw [this] at e; cases e
end
end Go.Ev
end
section
namespace Go.Ev
open Go.RowKit
variable {P : Program}
theorem perm_of_sub {α : Type} : ∀ {l m : List α}, l.Nodup → (∀ x ∈ l, x ∈ m) → m.length ≤ l.length → l.Perm m
  | [], m, _, _, h => by
    have : m = [] := List.eq_nil_of_length_eq_zero (by simpa using h)
    rw [this]
  | a :: l, m, hn, hs, h => by
    obtain ⟨s, t, rfl⟩ := List.append_of_mem (hs a (List.mem_cons_self ..))
    have hn' := List.nodup_cons.1 hn
    have hp : l.Perm (s ++ t) := perm_of_sub hn'.2 (fun x hx => by
      have h1 := hs x (List.mem_cons_of_mem _ hx)
      have h2 : x ≠ a := fun e => hn'.1 (e ▸ hx)
      rw [List.mem_append] at h1 ⊢
      rcases h1 with h1 | h1
      · exact .inl h1
      · rcases List.mem_cons.1 h1 with h1 | h1
        · exact absurd h1 h2
        · exact .inr h1) (by simp at h ⊢; omega)
    exact (hp.cons a).trans List.perm_middle.symm
theorem nodup_of_map {α β : Type} (f : α → β) : ∀ {l : List α}, (l.map f).Nodup → l.Nodup
  | [], _ => .nil
  | a :: l, h => by
    rw [List.map_cons, List.nodup_cons] at h
    exact List.nodup_cons.2 ⟨fun hm => h.1 (List.mem_map.2 ⟨a, hm, rfl⟩), nodup_of_map f h.2⟩
theorem cellsT_get : ∀ {l : List NT} {q : Nat} {y : NT}, l[q]? = some y → (cellsT l)[3 * q]? = some y.a ∧ (cellsT l)[3 * q + 1]? = some y.b ∧ (cellsT l)[3 * q + 2]? = some y.c
  | [], q, y, h => by simp at h
  | z :: l, 0, y, h => by injection h with h; subst h; exact ⟨rfl, rfl, rfl⟩
  | z :: l, q + 1, y, h => by
    have ih := cellsT_get (l := l) (q := q) (y := y) h
    rw [show 3 * (q + 1) = 3 * q + 3 by omega, show 3 * q + 3 + 1 = 3 * q + 1 + 3 by omega, show 3 * q + 3 + 2 = 3 * q + 2 + 3 by omega]
    exact ih
theorem cellsT_len : ∀ l : List NT, (cellsT l).length = 3 * l.length
  | [] => rfl
  | z :: l => by
    show (z.cells ++ cellsT l).length = _
    rw [List.length_append, cellsT_len l]
    simp [NT.cells]; omega
theorem exec_callf {o : Oper} {fs : Nat} {args : Array Operand} {ats : Array TypeId} (ho : o.op = .call ⟨.value (.func fs), args, ats⟩) (a : Act) (w : World) : (execOp a.eval o).run P w = (callFunc fs (args.toList.map a.eval).toArray).run P w := by
  have : execOp a.eval o = (do let d ← Go.resolve a.eval ⟨.value (.func fs), args, ats⟩ o.type; invoke d.target d.args) := by
    unfold execOp; rw [ho]
  rw [this]
  unfold Go.resolve Deferred.ofValue invoke
  have : a.eval (.func fs) = .func (.func fs) #[] #[] := rfl
  simp only [this, Sem.run_bind, Sem.run_pure, Result.andThen_ok]
  congr 2
  apply Array.ext'
  simp
theorem All2.getl {α β : Type} {R : α → β → Prop} {l : List α} {m : List β} (h : All2 R l m) : ∀ {i : Nat} {a : α}, l[i]? = some a → ∃ b, m[i]? = some b ∧ R a b := by
  induction h with
  | nil => intro i b h; simp at h
  | cons hr h ih =>
    intro i b hb
    cases i with
    | zero => injection hb with hb; subst hb; exact ⟨_, rfl, hr⟩
    | succ i => exact ih hb
theorem getD_put_ne' {a : Act} {d : Option Tmp} {t : Nat} {u : Value} (h : d ≠ some t) : (a.put d u).tmps.getD t undef = a.tmps.getD t undef := by
  cases d with
  | none => rfl
  | some d => exact getD_put_ne (fun e => h (by rw [e]))
noncomputable def rowOf (s : Sg) (x : NT) : Row3 := (x.p, (@con s (fun _ => none) x.b).getD (.agg #[]), (@con s (fun _ => none) x.c).getD (.agg #[]))
theorem rowOf_of {s : Sg} {β : Bt} {x : NT} {m : MapEntry} (h : @NtR s β x m) : m.val = .agg #[.string (bytesOf x.p), (rowOf s x).2.1, (rowOf s x).2.2] ∧ flatV (rowOf s x).2.1 = true ∧ flatV (rowOf s x).2.2 = true ∧
    (∀ β', @con s β' x.a = some (.string (bytesOf x.p)) ∧ @con s β' x.b = some (rowOf s x).2.1 ∧ @con s β' x.c = some (rowOf s x).2.2) := by
  obtain ⟨b, c, e, hb, hc, f1, f2⟩ := @NtR.val s β x m h
  have hb' : ∀ β', @con s β' x.b = some b := fun β' => by rw [← flat1_sg (s := s) (s' := s) (@NtR.fb s β x m h) β β']; exact hb
  have hc' : ∀ β', @con s β' x.c = some c := fun β' => by rw [← flat1_sg (s := s) (s' := s) (@NtR.fc s β x m h) β β']; exact hc
  have e1 : (rowOf s x).2.1 = b := by unfold rowOf; dsimp only; rw [hb']; rfl
  have e2 : (rowOf s x).2.2 = c := by unfold rowOf; dsimp only; rw [hc']; rfl
  rw [e1, e2]
  refine ⟨e, f1, f2, fun β' => ⟨?_, hb' β', hc' β'⟩⟩
  obtain ⟨n, ea, ha⟩ := @NtR.a s β x m h
  rw [ea] at ha ⊢
  simpa only [con] using ha
section
variable {N keep fuel : Nat} {p : NewParts} {ms : Array MapEntry} {clock cbm ir bt cbt n2 : Nat} {β0 : Bt} {w0 : World} {ds : List Deferred} {vs : List MapEntry} {β : Bt} {h : Hp} {a : Act} {w : World} {x : Res} {fs fc : Nat}
noncomputable def env5 (bt : Nat) : Tr AV := Tr.set (path 4) (some (.ptr bt 0)) .leaf
noncomputable def h6 (t2 : Tr Blk) (ni bt cnt lo : Nat) (x : Res) (l : List NT) : Hp :=
  .mk (((t2.set (path ni) none).set (path bt) (some (.cells x.ty x.l.length (putL x.l 0 .leaf) true x.sz))).set (path x.bg) (some (.cells x.e3 (3 * cnt) (putL (cellsT l) 0 .leaf) false 3))) x.n4 lo
theorem mid_end (sA : Sg) [Sl] (cx : Cx P N keep p ms clock cbm ir bt cbt n2 β0 w0) (cz : Cz P N keep p fs fc) {es : List (AV × AV × Nat)} {nts : List NT} (hent : All2 (@NtR sA β0) nts ms.toList) (hrise : riseB (srtT nts) = true) (hms : ms.size < 100000)
    {t2 : Tr Blk} {low2 ni : Nat} {β2 : Bt} (hr0 : @HR sA β2 (.mk t2 n2 low2) w0) (hβ : ∀ b, b ≤ bt → β0 b = β2 b) (hni : ∃ κ, β2 ni = some (ir, κ)) (hnit : ∃ y, t2.get (path ni) = some y) (hbtt : ∃ y, t2.get (path bt) = some y) (hbtni : bt < ni) {K : Ans} (hp : pre17 P keep p bt x ms.size K = .yes)
    (li : LInv ms clock cbm ir bt cbt n2 β0 w0 N ds vs β h a w) (hvs : vs.length = ms.size) (hx : IsRes n2 bt ms.size h x) {Q : Exit → Act → World → Prop}
    (hQ : ∀ a' w', @Post sA N ds β2 (.mk t2 n2 low2) w0 (env5 bt) (h6 t2 ni bt ms.size (min low2 bt) x (srtT nts)) a' w' → Q .normal a' w') : (Code.region p.i17 p.ops17 false).wp P Q a w := by
  obtain ⟨ct, hct, hctl⟩ := hx.tree
  obtain ⟨cg, hcg, hcgl⟩ := hx.bg
  have hlt := hx.lt
  have hge := hx.ge
  have hbtn2 := cx.lt
  have hnx := hx.nx
  obtain ⟨κ0, hbt0⟩ := cx.at_
  obtain ⟨-, cb1, κ1, hb1, Bt1⟩ := @HR.blk (sgOf ir vs) β h w li.hr bt _ hct
  have hbt1 : β bt = some (cbt, κ0) := by rw [li.old bt hbtn2, hbt0]
  rw [hbt1] at hb1
  injection hb1 with hb1
  injection hb1 with hb1 hb2
  subst hb1 hb2
  obtain ⟨-, cbg, κg, hbg, Bg1⟩ := @HR.blk (sgOf ir vs) β h w li.hr x.bg _ hcg
  obtain ⟨cs, fz, hcs, hfz, hel, hsz1, -, hsz2⟩ := Bg1
  obtain ⟨ct1, fzt, hct1, hfzt, helt, hszt, hszt2, -⟩ := Bt1
  have hsz3 : cs.size = κg * 3 := hsz2 rfl
  have hcntκ : ms.size ≤ κg := by omega
  have hcbgw : cbg < w.heap.size := (Array.getElem?_eq_some_iff.1 hcs).1
  have hcbtw : cbt < w.heap.size := (Array.getElem?_eq_some_iff.1 hct1).1
  have hne : cbg ≠ cbt := fun e => by
    have := @HR.inj (sgOf ir vs) β h w li.hr x.bg bt _ _ cbg κg κ0 hcg hct hbg (by rw [e]; exact hbt1)
    omega
  have hnew : w0.heap.size ≤ cbg := by
    rcases li.new x.bg cbg κg hge hbg with h1 | h1
    · exact h1
    · exact absurd h1 hne
  have hglob : GlobK P β := fun g hgl => by
    obtain ⟨κ, e⟩ := cx.glob g hgl
    have : g < n2 := by
      rcases Nat.lt_or_ge bt g with h | h
      · rw [cx.gt g h] at e; cases e
      · omega
    exact ⟨κ, by rw [li.old g this]; exact e⟩
  have hperm : vs.Perm ms.toList := perm_of_sub (nodup_of_map _ li.nod) li.sub (by rw [hvs]; simp)
  obtain ⟨nts', hnp, hall⟩ := hent.perm hperm.symm
  have hnl : nts'.length = ms.size := by rw [hall.len, hvs]
  have hsl : (srtT nts).length = ms.size := by rw [(srtT_perm nts).length_eq, ← hnp.length_eq, hnl]
  have hr17 : @HR (sgOf ir vs) β (h17 bt x) w := by
    refine @HR.mk (sgOf ir vs) β (h17 bt x) w (fun b y hb => ?_) (fun b b' y y' c κ κ' hb hb' _ _ => ?_) (fun i hi => @HR.fresh (sgOf ir vs) β h w li.hr i (by rw [← hnx]; exact hi)) (Nat.le_refl _)
    · unfold h17 at hb
      replace hb : (Tr.set (path bt) (some (.cells x.ty x.l.length (putL x.l 0 .leaf) true x.sz)) .leaf).get (path b) = some y := hb
      rw [get_set] at hb
      split at hb
      · rename_i e
        have e' := path_inj e
        injection hb with hb
        subst hb
        refine ⟨show b < x.n4 by omega, cbt, κ0, by rw [e']; exact hbt1, ct1, fzt, hct1, hfzt, fun i hi => ?_, hszt, hszt2, fun e => by cases e⟩
        obtain ⟨av, u, g1, g2, g3, g4⟩ := helt i hi
        have hi' := List.getElem?_eq_getElem hi
        refine ⟨x.l[i], u, ?_, g2, ?_, g4⟩
        · rw [get_putL, if_pos (by omega), Nat.sub_zero, hi']
        · have := (hctl i _ hi').1
          rw [g1] at this
          injection this with this
          rw [← this]; exact g3
      · rw [get_leaf] at hb; cases hb
    · have one : ∀ b y, (h17 bt x).tr.get (path b) = some y → b = bt := fun b y hb => by
        replace hb : (Tr.set (path bt) (some (.cells x.ty x.l.length (putL x.l 0 .leaf) true x.sz)) .leaf).get (path b) = some y := hb
        rw [get_set] at hb
        split at hb
        · rename_i e; exact path_inj e
        · rw [get_leaf] at hb; cases hb
      rw [one b y hb, one b' y' hb']
  have hcv : @CvR (sgOf ir vs) β (fun t => (envS bt).get (path t)) a.tmps := fun t av ht => by
    rcases envS_get ht with ⟨rfl, rfl⟩ | ⟨rfl, rfl⟩
    · rw [li.t4]; simp only [con, hbt1]; rfl
    · rw [li.t60]; exact sgOf_it ir _ β
  obtain ⟨o, args, ats, hops, ho, hargs, hgd, hdst⟩ := cz.o17
  obtain ⟨hK, hw⟩ := @pre17_yes P N keep p bt ms.size x fs fc (sgOf ir vs) _ cz cx.k4 cx.k60 K hp
  replace hw := hw hlt (by omega)
  have key : wpList P p.ops17 Q (p.ops17.toList.dropLast ++ [o]) a w := by
    refine wpList_cut (hw ds β a w hr17 hcv li.sz li.dfr hglob _ fun a' w' c78 c4 hN hd o1 o2 o3 o4 o5 => ?_)
    show if _ then _ else _
    rw [if_pos (wanted_none hgd _ _)]
    left
    unfold Oper.wp
    have v78 : a'.tmps.getD 78 undef = .slice (some ⟨cbg, 0, none⟩) (nts'.map (rowOf sA)).length κg := by
      simp only [con, hbg] at c78
      rw [Option.bind_some, if_pos (.inr (by omega))] at c78
      injection c78 with c78
      rw [← c78, List.length_map, hnl]
      rfl
    have v4 : a'.tmps.getD 4 undef = .pointer (some ⟨cbt, 0, none⟩) := by
      simp only [con, hbt1] at c4
      injection c4 with c4
      exact c4.symm
    have hrun : (execOp a'.eval o).run P w' = (callFunc fs #[.slice (some ⟨cbg, 0, none⟩) (nts'.map (rowOf sA)).length κg, .func (.func fc) #[] #[]]).run P w' := by
      rw [exec_callf ho, hargs]
      show (callFunc fs #[a'.tmps.getD 78 undef, .func (.func fc) #[] #[]]).run P w' = _
      rw [v78]
    rw [hrun]
    have hA : ∀ r ∈ nts'.map (rowOf sA), r.1.all (· < 256) = true ∧ flatV r.2.1 = true ∧ flatV r.2.2 = true := by
      intro r hr
      obtain ⟨y, hy, rfl⟩ := List.mem_map.1 hr
      obtain ⟨i, hi⟩ := List.mem_iff_getElem?.1 hy
      obtain ⟨m, -, hm⟩ := hall.getl hi
      obtain ⟨-, f1, f2, -⟩ := rowOf_of hm
      exact ⟨@NtR.all sA β0 y m hm, f1, f2⟩
    have hB : ∀ q r, (nts'.map (rowOf sA))[q]? = some r → cs[3 * q]? = some (.string (bytesOf r.1)) ∧ cs[3 * q + 1]? = some r.2.1 ∧ cs[3 * q + 2]? = some r.2.2 := by
      intro q r hr
      rw [List.getElem?_map, Option.map_eq_some_iff] at hr
      obtain ⟨y, hy, rfl⟩ := hr
      obtain ⟨m, hm1, hm⟩ := hall.getl hy
      obtain ⟨ev, f1, f2, -⟩ := rowOf_of hm
      have hq : q < ms.size := by
        have := (List.getElem?_eq_some_iff.1 hm1).1
        omega
      obtain ⟨c1, c2, c3⟩ := hcgl q hq
      have hcl : m.key :: m.val.cells.toList = [m.key, .string (bytesOf y.p), (rowOf sA y).2.1, (rowOf sA y).2.2] := by rw [ev]; rfl
      have cell : ∀ (j : Nat) (v : Value), j < 3 → [m.key, .string (bytesOf y.p), (rowOf sA y).2.1, (rowOf sA y).2.2][j + 1]? = some v → flatV v = true → cg.get (path (3 * q + j)) = some (.sym (4 * q + (j + 1))) → cs[3 * q + j]? = some v := by
        intro j v hj hv hfv hg
        obtain ⟨av, u, g1, g2, g3, g4⟩ := hel (3 * q + j) (by omega)
        rw [hg] at g1
        injection g1 with g1
        subst g1
        rw [sgOf_at ir (q := j + 1) hm1 (by omega) (by omega) (by rw [hcl]; exact hv) hfv β] at g3
        injection g3 with g3
        rw [g2, g3]
      exact ⟨cell 0 _ (by omega) rfl rfl c1, cell 1 _ (by omega) rfl f1 c2, cell 2 _ (by omega) rfl f2 c3⟩
    obtain ⟨hs1, hs2⟩ := cz.sort w' cbg κg (nts'.map (rowOf sA)) cs x.e3 fz (by rw [o5 _ hcbgw]; exact hcs) hfz (by rw [List.length_map, hnl]; exact hms) (by rw [List.length_map, hnl]; exact hcntκ) hsz3 hA hB
    · rw [hs1]
      refine hs2.mono fun e w2 he => ?_
      obtain ⟨rfl, d', cs', hdp, hds, q1, q2, q3, q4, q5, q6, q7, q8⟩ := he
      show Q .normal (a'.put o.dst (.tuple #[])) w2
      have hd' : d' = (srtT nts).map (rowOf sA) := rows_eq (fun _ => rfl) hrise (hdp.trans (hnp.map (rowOf sA))) hds
      let β6 : Bt := fun b => if b < n2 then β2 b else β b
      have b6lo : ∀ b, b < n2 → β6 b = β2 b := fun b hb => if_pos hb
      have b6hi : ∀ b, n2 ≤ b → β6 b = β b := fun b hb => if_neg (by omega)
      have hfr : ∀ i, n2 ≤ i → β2 i = none := fun i hi => @HR.fresh sA β2 _ w0 hr0 i hi
      have hle : Le β2 β6 := fun b y hb => by
        rcases Nat.lt_or_ge b n2 with h1 | h1
        · rw [b6lo b h1]; exact hb
        · rw [hfr b h1] at hb; cases hb
      have hbt2 : β2 bt = some (cbt, κ0) := by rw [← hβ bt (Nat.le_refl _), hbt0]
      have hbg6 : β6 x.bg = some (cbg, κg) := by rw [b6hi _ hge]; exact hbg
      have hbt6 : β6 bt = some (cbt, κ0) := by rw [b6lo _ hbtn2]; exact hbt2
      have low6 : ∀ b, b < n2 → ∀ y, β b = some y → β6 b = some y := fun b hb y hy => by
        rw [li.old b hb] at hy
        rw [b6lo b hb]
        rcases Nat.lt_or_ge bt b with h1 | h1
        · rw [cx.gt b h1] at hy; cases hy
        · rw [← hβ b h1]; exact hy
      have hkeep : ∀ c, c < w0.heap.size → c ≠ cbt → c ≠ ir → w2.heap[c]? = w0.heap[c]? := fun c h1 h2 h3 => by
        have hcw : c < w.heap.size := Nat.lt_of_lt_of_le h1 li.size
        rw [q5 c (Nat.lt_of_lt_of_le hcw o4) (by omega), o5 c hcw, li.block c h1 h2 h3]
      have hct2 : w2.heap[cbt]? = w.heap[cbt]? := by rw [q5 cbt (Nat.lt_of_lt_of_le hcbtw o4) (fun e => hne e.symm), o5 cbt hcbtw]
      have h6get : ∀ b y, (h6 t2 ni bt ms.size (min low2 bt) x (srtT nts)).tr.get (path b) = some y → (b = x.bg ∧ y = .cells x.e3 (3 * ms.size) (putL (cellsT (srtT nts)) 0 .leaf) false 3) ∨ (b = bt ∧ y = .cells x.ty x.l.length (putL x.l 0 .leaf) true x.sz) ∨ (b ≠ bt ∧ b ≠ ni ∧ t2.get (path b) = some y) := fun b y hb => by
        replace hb : (((t2.set (path ni) none).set (path bt) (some (.cells x.ty x.l.length (putL x.l 0 .leaf) true x.sz))).set (path x.bg) (some (.cells x.e3 (3 * ms.size) (putL (cellsT (srtT nts)) 0 .leaf) false 3))).get (path b) = some y := hb
        rw [get_set, get_set, get_set] at hb
        split at hb
        · rename_i e; injection hb with hb; exact .inl ⟨path_inj e, hb.symm⟩
        · split at hb
          · rename_i e; injection hb with hb; exact .inr (.inl ⟨path_inj e, hb.symm⟩)
          · rename_i e
            split at hb
            · cases hb
            · rename_i e2; exact .inr (.inr ⟨fun h => e (by rw [h]), fun h => e2 (by rw [h]), hb⟩)
      obtain ⟨yn, hyn⟩ := hnit
      obtain ⟨κn, hκn⟩ := hni
      obtain ⟨yb, hyb⟩ := hbtt
      have oldb : ∀ b y, b ≠ bt → b ≠ ni → t2.get (path b) = some y → b < n2 ∧ ∃ c κ, β2 b = some (c, κ) ∧ c < w0.heap.size ∧ c ≠ cbt ∧ c ≠ ir ∧ @BlkR sA β2 κ w0.heap[c]? y := fun b y e1 e2 hb => by
        obtain ⟨r1, c, κ, r2, r3⟩ := @HR.blk sA β2 _ w0 hr0 b y hb
        refine ⟨r1, c, κ, r2, ?_, fun e => e1 (@HR.inj sA β2 _ w0 hr0 b bt y yb c κ κ0 hb hyb r2 (by rw [e]; exact hbt2)), fun e => e2 (@HR.inj sA β2 _ w0 hr0 b ni y yn c κ κn hb hyn r2 (by rw [e]; exact hκn)), r3⟩
        cases y with
        | cells e' len c ex esz => obtain ⟨cs, fz, e2, -⟩ := r3; exact (Array.getElem?_eq_some_iff.1 e2).1
        | map es clock => obtain ⟨ms, e2, -⟩ := r3; exact (Array.getElem?_eq_some_iff.1 e2).1
        | iter l p => exact (Array.getElem?_eq_some_iff.1 r3.1).1
        | miter b s => obtain ⟨_, _, _, e2⟩ := r3; exact (Array.getElem?_eq_some_iff.1 e2).1
      have hrF : @HR sA β6 (h6 t2 ni bt ms.size (min low2 bt) x (srtT nts)) w2 := by
        refine @HR.mk sA β6 _ w2 (fun b y hb => ?_) (fun b b' y y' c κ κ' hb hb' hc hc' => ?_) (fun i hi => ?_) ?_
        · rcases h6get b y hb with ⟨rfl, rfl⟩ | ⟨rfl, rfl⟩ | ⟨n1, n2', n3⟩
          · refine ⟨hlt, cbg, κg, hbg6, cs', fz, q6, fun i hi => hfz i (by omega), fun i hi => ?_, by omega, fun e => (by cases e), fun _ => by omega⟩
            have hq : i / 3 < (srtT nts).length := by omega
            obtain ⟨y, hy⟩ : ∃ y, (srtT nts)[i / 3]? = some y := ⟨_, List.getElem?_eq_getElem hq⟩
            have hyn := (srtT_perm nts).mem_iff.1 (List.mem_of_getElem? hy)
            obtain ⟨j, hj⟩ := List.mem_iff_getElem?.1 hyn
            obtain ⟨m, -, hm⟩ := hent.getl hj
            obtain ⟨-, f1, f2, hcn⟩ := rowOf_of hm
            obtain ⟨k1, k2, k3⟩ := hcn β6
            obtain ⟨p1, p2, p3⟩ := cellsT_get hy
            obtain ⟨r1, r2, r3⟩ := q8 (i / 3) (rowOf sA y) (by rw [hd', List.getElem?_map, hy]; rfl)
            have hcl := cellsT_len (srtT nts)
            have hi3 : i = 3 * (i / 3) ∨ i = 3 * (i / 3) + 1 ∨ i = 3 * (i / 3) + 2 := by omega
            have hget : (putL (cellsT (srtT nts)) 0 .leaf).get (path i) = (cellsT (srtT nts))[i]? := by
              rw [get_putL, if_pos (by omega), Nat.sub_zero]
            rw [hget]
            rcases hi3 with e | e | e
            · rw [e]; exact ⟨_, _, p1, r1, k1, rfl⟩
            · rw [e]; exact ⟨_, _, p2, r2, k2, f1⟩
            · rw [e]; exact ⟨_, _, p3, r3, k3, f2⟩
          · refine ⟨show b < x.n4 by omega, cbt, κ0, hbt6, ct1, fzt, by rw [hct2]; exact hct1, hfzt, fun i hi => ?_, hszt, hszt2, fun e => by cases e⟩
            obtain ⟨av, u, g1, g2, g3, g4⟩ := helt i hi
            have hi' := List.getElem?_eq_getElem hi
            refine ⟨x.l[i], u, ?_, g2, ?_, g4⟩
            · rw [get_putL, if_pos (by omega), Nat.sub_zero, hi']
            · obtain ⟨c1, c2⟩ := hctl i _ hi'
              rw [g1] at c1
              injection c1 with c1
              rw [c1] at g3
              rcases c2 with c2 | c2
              · subst c2
                have hsl2 := hx.slice _ hi'
                rw [hsl2] at g3 ⊢
                simp only [con, hbg] at g3
                simp only [con, hbg6]
                exact g3
              · exact low_sg (s := sgOf ir vs) (s' := sA) c2 low6 g3
          · obtain ⟨r1, c, κ, r2, r3, r4, r5, r6⟩ := oldb b y n1 n2' n3
            refine ⟨show b < x.n4 by omega, c, κ, hle _ _ r2, ?_⟩
            rw [hkeep c r3 r4 r5]
            exact @BlkR.mono sA β2 β6 hle _ _ _ r6
        · have cls : ∀ b y, (h6 t2 ni bt ms.size (min low2 bt) x (srtT nts)).tr.get (path b) = some y → ∀ c κ, β6 b = some (c, κ) → (b = x.bg ∧ c = cbg) ∨ (b = bt ∧ c = cbt) ∨ (c < w0.heap.size ∧ c ≠ cbt ∧ β2 b = some (c, κ) ∧ t2.get (path b) = some y) := fun b y hb c κ hc => by
            rcases h6get b y hb with ⟨rfl, rfl⟩ | ⟨rfl, rfl⟩ | ⟨n1, n2', n3⟩
            · rw [hbg6] at hc; injection hc with hc; injection hc with hc _; exact .inl ⟨rfl, hc.symm⟩
            · rw [hbt6] at hc; injection hc with hc; injection hc with hc _; exact .inr (.inl ⟨rfl, hc.symm⟩)
            · obtain ⟨r1, c', κ', r2, r3, r4, r5, r6⟩ := oldb b y n1 n2' n3
              rw [b6lo b r1] at hc
              have h9 := hc
              rw [r2] at h9
              injection h9 with h9
              injection h9 with h9 h10
              subst h9
              exact .inr (.inr ⟨r3, r4, hc, n3⟩)
          rcases cls b y hb c κ hc with ⟨e1, e2⟩ | ⟨e1, e2⟩ | ⟨e1, e2, e3, e4⟩
          · rcases cls b' y' hb' c κ' hc' with ⟨f1, f2⟩ | ⟨f1, f2⟩ | ⟨f1, f2, f3, f4⟩
            · rw [e1, f1]
            · exact absurd (e2.symm.trans f2) hne
            · omega
          · rcases cls b' y' hb' c κ' hc' with ⟨f1, f2⟩ | ⟨f1, f2⟩ | ⟨f1, f2, f3, f4⟩
            · exact absurd (f2.symm.trans e2) hne
            · rw [e1, f1]
            · exact absurd e2 f2
          · rcases cls b' y' hb' c κ' hc' with ⟨f1, f2⟩ | ⟨f1, f2⟩ | ⟨f1, f2, f3, f4⟩
            · omega
            · exact absurd f2 e2
            · exact @HR.inj sA β2 _ w0 hr0 b b' y y' c κ κ' e4 f4 e3 f3
        · replace hi : x.n4 ≤ i := hi
          rw [b6hi i (by omega)]
          exact @HR.fresh (sgOf ir vs) β h w li.hr i (by rw [← hnx]; exact hi)
        · show min low2 bt ≤ x.n4
          have := Nat.min_le_right low2 bt
          omega
      refine hQ _ _ ⟨β6, @Stp.mk sA β2 (.mk t2 n2 low2) w0 β6 (h6 t2 ni bt ms.size (min low2 bt) x (srtT nts)) w2 hrF (show n2 ≤ x.n4 by omega) (Nat.min_le_left _ _) b6lo (fun b y hb e => by
        replace hb : b < n2 := hb
        rcases h6get b y e with ⟨g, -⟩ | ⟨g, -⟩ | ⟨-, -, g⟩
        · omega
        · exact ⟨yb, by rw [g]; exact hyb⟩
        · exact ⟨y, g⟩) (fun b c κ hb e => ?_) ⟨q1.trans (o1.trans li.os), q2.trans (o2.trans li.tape), q3.trans (o3.trans li.output), Nat.le_trans li.size (Nat.le_trans o4 q4), fun c hc hnn => ?_⟩, @Rel.mk sA N ds β6 (env5 bt) _ _ w2 hrF (fun t av ht => ?_) (by rw [put_size]; exact hN) (by rw [put_defers]; exact hd)⟩
      · rw [b6hi b hb] at e
        rcases li.new b c κ hb e with r | r
        · exact .inl r
        · exact .inr ⟨bt, κ0, yb, Nat.min_le_right _ _, hbtn2, hyb, by rw [r]; exact hbt2⟩
      · refine hkeep c hc (fun e => hnn bt κ0 yb (Nat.min_le_right _ _) hyb (by rw [e]; exact hbt2)) fun e => hnn ni κn yn ?_ hyn (by rw [e]; exact hκn)
        exact Nat.le_trans (Nat.min_le_right _ _) (Nat.le_of_lt hbtni)
      · unfold env5 at ht
        rw [get_set] at ht
        split at ht
        · rename_i e
          have e' := path_inj e
          injection ht with ht
          subst ht
          rw [e', getD_put_ne' hdst, v4]
          simp only [con, hbt6]; rfl
        · rw [get_leaf] at ht; cases ht
  rw [← hops] at key
  exact wp_region_list key
end
end Go.Ev
namespace Go.Ev
open Go.RowKit
variable {P : Program}
theorem EntR.mem [Sg] {β : Bt} : ∀ {es : List (AV × AV × Nat)} {ms : List MapEntry}, EntR β es ms → ∀ m ∈ ms, ∃ e ∈ es, m.born = e.2.2
  | [], [], _, m, hm => by cases hm
  | [], _ :: _, h, _, _ => h.elim
  | _ :: _, [], h, _, _ => h.elim
  | e :: es, m :: ms, ⟨_, _, h3, h⟩, x, hx => by
    rcases List.mem_cons.1 hx with rfl | hx
    · exact ⟨e, List.mem_cons_self .., h3⟩
    · obtain ⟨e', h1, h2⟩ := EntR.mem h x hx
      exact ⟨e', List.mem_cons_of_mem _ h1, h2⟩
theorem borns_of [Sg] {β : Bt} {clock : Nat} : ∀ {es : List (AV × AV × Nat)} {ms : List MapEntry}, EntR β es ms → bornsB clock es = true → (∀ m ∈ ms, m.born < clock) ∧ (ms.map (·.born)).Nodup
  | [], [], _, _ => ⟨(fun m hm => by cases hm), .nil⟩
  | [], _ :: _, h, _ => h.elim
  | _ :: _, [], h, _ => h.elim
  | e :: es, m :: ms, ⟨_, _, h3, h⟩, hb => by
    unfold bornsB at hb
    rw [Bool.and_eq_true, Bool.and_eq_true] at hb
    obtain ⟨i1, i2⟩ := borns_of h hb.2
    refine ⟨fun x hx => ?_, ?_⟩
    · rcases List.mem_cons.1 hx with rfl | hx
      · rw [h3]; exact blt_of hb.1.1
      · exact i1 x hx
    · rw [List.map_cons, List.nodup_cons]
      refine ⟨fun hm => ?_, i2⟩
      obtain ⟨x, hx, hxe⟩ := List.mem_map.1 hm
      obtain ⟨e', he', hee⟩ := h.mem x hx
      have := List.all_eq_true.1 hb.1.2 e' he'
      rw [← h3, ← hee, hxe, Nat.beq_refl] at this
      cases this
theorem lowK_yes {n : Nat} {c : Tr AV} {x : Ans} : ∀ (m j : Nat), lowK n c x m j = .yes → x = .yes ∧ ∀ q, j ≤ q → q < j + m → ∃ a, c.get (path q) = some a ∧ lowA1 n a = true := by
  intro m
  induction m with
  | zero => exact fun j H => ⟨H, fun q h1 h2 => by omega⟩
  | succ m ih =>
    intro j H
    replace H : (c.getP (path j) (.no 318) fun a => cnd (lowA1 n a) (fNat (Nat.succ j) (lowK n c x m)) (.no 319)) = .yes := H
    obtain ⟨a, ha, H⟩ := getP_yes H
    obtain ⟨h1, H⟩ := cnd_yes H
    rw [fNat_eq] at H
    obtain ⟨hx, hr⟩ := ih _ H
    refine ⟨hx, fun q g1 g2 => ?_⟩
    by_cases hq : q = j
    · subst hq; exact ⟨a, ha, h1⟩
    · exact hr q (by omega) (by omega)
theorem NtR.any [Sg] {β β' : Bt} {x : NT} {m : MapEntry} (h : NtR β x m) : NtR β' x m := by
  obtain ⟨h1, ⟨b, c, e, hb, hc, f1, f2⟩, h3, ⟨n, ea, ha⟩, h5, h6⟩ := h
  refine ⟨h1, ⟨b, c, e, by rw [← flat1_sg h5 β β']; exact hb, by rw [← flat1_sg h6 β β']; exact hc, f1, f2⟩, h3, ⟨n, ea, ?_⟩, h5, h6⟩
  rw [ea] at ha ⊢
  simpa only [con] using ha
theorem All2.imp {α β : Type} {R S : α → β → Prop} (hrs : ∀ a b, R a b → S a b) {l : List α} {m : List β} (h : All2 R l m) : All2 S l m := by
  induction h with
  | nil => exact .nil
  | cons hr _ ih => exact .cons (hrs _ _ hr) ih
section
variable {N keep fuel : Nat} {p : NewParts} {fs fc : Nat}
theorem loopPart_ex [Sl] (cy : Cy P N keep p) (k4 : inMask keep 4 = true) (k60 : inMask keep 60 = true) (k63 : inMask keep 63 = false) {bt n2 cnt : Nat} {h : Hp} {k : Res → Ans} (H : loopPart P N keep fuel p bt n2 cnt h k = .yes) : ∃ x, k x = .yes := by
  letI sg : Sg := sgOf 0 []
  obtain ⟨h', H'⟩ := loopK_ex cy k4 k60 k63 _ _ _ _ H
  obtain ⟨x, -, hx⟩ := resK2_yes H'
  exact ⟨x, hx⟩
theorem midK_sound [sA : Sg] [Sl] (cy : Cy P N keep p) (cz : Cz P N keep p fs fc) {env : Tr AV} {h : Hp} {k : Tr AV → Hp → Ans} (H : midK P N keep fuel p env h k = .yes) (hK : EnvK keep env) :
    ∃ env' h', k env' h' = .yes ∧ EnvK keep env' ∧ ∀ ds β a w, @Rel sA N ds β env h a w → GlobK P β → ∀ Q : Exit → Act → World → Prop, (∀ a' w', @Post sA N ds β h w env' h' a' w' → Q .normal a' w') →
      (Code.seq (.region p.i13 p.ops13 false) (.block p.b2 (.loop p.loopC))).wp P (Exit.then ((Code.region p.i17 p.ops17 false).wp P Q) Q) a w := by
  unfold midK at H
  obtain ⟨ex, env1, h1, H1, hK1, hw1⟩ := run_sound (regOK cy.hm noCall noCall_sound N keep) fuel (.code (.region p.i13 p.ops13 false)) env h _ H hK
  obtain ⟨rfl, H2⟩ := onNormal_no H1
  obtain ⟨y, g60, H3⟩ := getP_yes H2
  obtain ⟨t2, n2, low2⟩ := h1
  split at H3
  rotate_left
  · cases H3
  rename_i ni t2' n2' low2' heq
  injection heq with q1 q2 q3
  subst q1 q2 q3
  obtain ⟨bl, gni, H4⟩ := getP_yes H3
  split at H4
  rotate_left
  · cases H4
  rename_i bm since
  obtain ⟨bl, gbm, H5⟩ := getP_yes H4
  split at H5
  rotate_left
  · cases H5
  rename_i es clock
  obtain ⟨hb, H6⟩ := cnd_yes H5
  obtain ⟨y, g4, H7⟩ := getP_yes H6
  split at H7
  rotate_left
  · cases H7
  rename_i bt
  obtain ⟨bl, gbt, H8⟩ := getP_yes H7
  split at H8
  rotate_left
  · cases H8
  rename_i ty m c ex sz
  obtain ⟨hc, H9⟩ := cnd_yes H8
  rw [fNat_eq] at H9
  obtain ⟨H10, hlow⟩ := lowK_yes _ _ H9
  simp only [Bool.and_eq_true] at hc hb
  obtain ⟨⟨⟨⟨⟨⟨c1, c2⟩, c3⟩, c4⟩, k4⟩, k60⟩, c7⟩ := hc
  have k63 : inMask keep 63 = false := by simpa using c7
  have c2' := blt_of c2
  have c3' := blt_of c3
  have c4' := Nat.le_of_ble_eq_true c4
  have hsc := Nat.eq_of_beq_eq_true hb.1
  subst hsc
  have hb2 := hb.2
  cases hnt : ntL es with
  | none => rw [hnt] at H10; cases H10
  | some nts =>
  rw [hnt] at H10
  replace H10 : lenK (es.map (·.1)) (fun cnt => cnd (riseB (srtT nts) && Nat.blt cnt 100000) (Tr.setP (path bt) (some (.cells ty m c ex sz)) .leaf fun ts =>
    loopPart P N keep fuel p bt n2 cnt (.mk ts n2 n2) fun x => loopPart P N keep fuel p bt n2 cnt (.mk ts n2 n2) fun y => cnd (sameR x y) (pre17 P keep p bt x cnt (
      writeL x.l 0 .leaf fun c1 => writeL (cellsT (srtT nts)) 0 .leaf fun c2 =>
        t2.setP (path ni) none fun t => t.setP (path bt) (some (.cells x.ty x.l.length c1 true x.sz)) fun t => t.setP (path x.bg) (some (.cells x.e3 (3 * cnt) c2 false 3)) fun t => natMin low2 bt fun low =>
          Tr.setP (path 4) (some (.ptr bt 0)) .leaf fun env5 => k env5 (.mk t x.n4 low))) (.no 305)) (.no 286)) = .yes := H10
  rw [lenK_eq] at H10
  generalize hcnt : (es.map (·.1)).length = cnt at H10
  obtain ⟨hr, H11⟩ := cnd_yes H10
  rw [Bool.and_eq_true] at hr
  rw [setP_eq] at H11
  obtain ⟨x, H12⟩ := loopPart_ex cy k4 k60 k63 H11
  obtain ⟨y, H13⟩ := loopPart_ex cy k4 k60 k63 H12
  obtain ⟨hxy, H14⟩ := cnd_yes H13
  have hK' := (pre17_yes cz k4 k60 H14).1
  have hK2 := hK'
  rw [writeL_eq, writeL_eq, setP_eq, setP_eq, setP_eq, natMin_eq, setP_eq] at hK2
  refine ⟨env5 bt, h6 t2 ni bt cnt (min low2 bt) x (srtT nts), hK2, fun t ht => ?_, fun ds β a w hrel hg Q hQ => ?_⟩
  · unfold env5
    rw [get_set, get_leaf]
    split
    · rename_i e; rw [path_inj e, k4] at ht; cases ht
    · rfl
  refine wp_seq (wp_mono (hw1 ds β a w hrel hg) fun ee a1 w1 hp => ?_)
  obtain ⟨rfl, β2, s1, r1⟩ := hp
  have hr0 : HR β2 (.mk t2 n2 low2) w1 := s1.hr
  have hg2 : GlobK P β2 := hg.le (s1.le hrel.hr)
  obtain ⟨hnin, ir, κi, hβi, cbm, κm', hβm', hiter⟩ := hr0.blk ni _ gni
  obtain ⟨hbmn, cbm2, κm, hβm, ms, hmap, hent⟩ := hr0.blk bm _ gbm
  obtain ⟨hbtn, cbt, κt, hβt, cst, fzt, hcst, hfzt, helt, hszt, hszt2, hszt3⟩ := hr0.blk bt _ gbt
  rw [hβm'] at hβm
  injection hβm with hβm
  injection hβm with e1 e2
  subst e1 e2
  have hbtn' : bt < n2 := hbtn
  have ne1 : cbm ≠ cbt := fun e => by
    have := hr0.inj bm bt _ _ cbm _ _ gbm gbt hβm' (by rw [e]; exact hβt); omega
  have ne2 : cbm ≠ ir := fun e => by
    have := hr0.inj bm ni _ _ cbm _ _ gbm gni hβm' (by rw [e]; exact hβi); omega
  have ne3 : ir ≠ cbt := fun e => by
    have := hr0.inj ni bt _ _ ir _ _ gni gbt hβi (by rw [e]; exact hβt); omega
  obtain ⟨hborn, hnod⟩ := borns_of hent hb2
  have hall := ntL_ents hent hnt
  have hcnt2 : cnt = ms.size := by rw [← hcnt, List.length_map, hent.len, Array.length_toList]
  subst hcnt2
  have hms : ms.size < 100000 := blt_of hr.2
  let βr : Bt := fun b => if b ≤ bt then β2 b else none
  have brlo : ∀ b, b ≤ bt → βr b = β2 b := fun b hb => if_pos hb
  have brhi : ∀ b, bt < b → βr b = none := fun b hb => if_neg (by omega)
  have cx : Cx P N keep p ms since cbm ir bt cbt n2 βr w1 := by
    refine ⟨cy.hm, cy.o14, cy.o15, cy.n, cy.dst15, k4, k60, k63, fun g hgl => ?_, brhi, ⟨κt, by rw [brlo bt (Nat.le_refl _)]; exact hβt⟩, hbtn', hmap, ne1, ne2, ne3, (Array.getElem?_eq_some_iff.1 hiter).1, hborn, hnod, fun m hm => ?_⟩
    · rw [brlo g (by omega)]; exact hg2 g hgl
    · obtain ⟨y, -, hy⟩ := hall.mem hm
      obtain ⟨b, c, e, -, -, f1, f2⟩ := hy.val
      exact ⟨hy.key, _, _, _, e, rfl, f1, f2⟩
  have t4 : a1.tmps.getD 4 undef = .pointer (some ⟨cbt, 0, none⟩) := by
    have := r1.env 4 _ g4
    simp only [con, hβt] at this
    injection this with this; exact this.symm
  have t60 : a1.tmps.getD 60 undef = .pointer (some ⟨ir, 0, none⟩) := by
    have := r1.env 60 _ g60
    simp only [con, hβi] at this
    injection this with this; exact this.symm
  have one : ∀ b y, (Tr.set (path bt) (some (.cells ty m c ex sz)) (.leaf : Tr Blk)).get (path b) = some y → b = bt ∧ y = .cells ty m c ex sz := fun b y hb => by
    rw [get_set] at hb
    split at hb
    · rename_i e; injection hb with hb; exact ⟨path_inj e, hb.symm⟩
    · rw [get_leaf] at hb; cases hb
  have li : LInv ms since cbm ir bt cbt n2 βr w1 N ds [] βr (.mk (Tr.set (path bt) (some (.cells ty m c ex sz)) .leaf) n2 n2) a1 w1 := by
    refine ⟨?_, fun b y hb => .inl (one b y hb).1, Nat.le_refl _, Nat.le_of_lt hbtn', fun b _ => rfl, fun b c' κ hb e => ?_, rfl, rfl, rfl, Nat.le_refl _, fun c _ _ _ => rfl, t4, t60, r1.size, r1.defers, ⟨since, Nat.le_refl _, hiter⟩, (fun e he => by cases he), .nil⟩
    · refine @HR.mk (sgOf ir []) βr _ w1 (fun b y hb => ?_) (fun b b' y y' c' κ κ' hb hb' _ _ => by rw [(one b y hb).1, (one b' y' hb').1]) (fun i hi => brhi i (Nat.lt_of_lt_of_le hbtn' hi)) (Nat.le_refl _)
      obtain ⟨rfl, rfl⟩ := one b y hb
      refine ⟨hbtn', cbt, κt, by rw [brlo _ (Nat.le_refl _)]; exact hβt, cst, fzt, hcst, hfzt, fun i hi => ?_, hszt, hszt2, hszt3⟩
      obtain ⟨av, u, g1, g2, g3, g4⟩ := helt i hi
      obtain ⟨av', h1, h2⟩ := hlow i (Nat.zero_le _) (by omega)
      rw [g1] at h1
      injection h1 with h1
      subst h1
      exact ⟨av, u, g1, g2, low_sg (s := sA) (s' := sgOf ir []) h2 (fun b' hb' y hy => by rw [brlo b' (by omega)]; exact hy) g3, g4⟩
    · rw [brhi b (by omega)] at e; cases e
  show (Code.block p.b2 (.loop p.loopC)).wp P _ a1 w1
  refine wp_block (wp_loop_rounds (ms.size + 1) (loop_ok cx hms ms.size 0 _ H12 (by omega) [] βr a1 w1 rfl li _ fun h' vs' β' a' w' hk hvs li' => ?_))
  obtain ⟨y', hy', hk'⟩ := @resK2_yes bt n2 (sgOf ir vs') _ _ _ hk
  obtain ⟨hxy', H15⟩ := cnd_yes hk'
  obtain rfl := sameR_eq hxy'
  show (Code.region p.i17 p.ops17 false).wp P Q a' w'
  refine mid_end sA cx cz (es := es) (hall.imp fun _ _ h => h.any) hr.1 hms hr0 brlo ⟨κi, hβi⟩ ⟨_, gni⟩ ⟨_, gbt⟩ c3' H15 li' hvs hy' fun a2 w2 hp => hQ a2 w2 (hp.trans hrel.hr s1)
end
end Go.Ev
namespace Go.Ev
open Go.RowKit
structure TreeAt (P : Program) (f : Nat) : Prop where
  ex : ∃ fn p fs fc, P.funcs[f]? = some fn ∧ (fn.name == "runtime.NumGoroutine") = false ∧ fn.body = some p.code ∧ Cy P fn.ntmps (keepF fn) p ∧ Cz P fn.ntmps (keepF fn) p fs fc
variable [Sg] [Sl]
variable {P : Program}
theorem partsOf_code (p : NewParts) : partsOf p.code = some p := by
  obtain ⟨r0, a1, r3, l1, r12, rest, i13, i14, i15, i16, i17, b2, b3, o13, o14, o15, o16, o17⟩ := p
  simp [partsOf, NewParts.code, NewParts.loopC, seqOf, regOf, blkOf, loopOf, exitOf]
theorem chain_sound {callf : CallF} {N keep fuel : Nat} (hreg : RegOK P callf N keep) : ∀ (cs : List Code) (env : Tr AV) (h : Hp) (k : Kont), chainK P callf N keep fuel cs env h k = .yes → EnvK keep env →
    ∃ e env' h', k e env' h' = .yes ∧ EnvK keep env' ∧ ∀ (c0 : Code) ds β a w, Rel N ds β env h a w → GlobK P β → ∀ Q : Exit → Act → World → Prop,
      (∀ a' w', Post N ds β h w env' h' a' w' → Exit.then (c0.wp P Q) Q (exOf e) a' w') → (cs.foldr Code.seq c0).wp P Q a w
  | [], env, h, k, H, hK => ⟨.normal, env, h, H, hK, fun c0 ds β a w hr hg Q hQ => hQ a w ⟨β, .refl hr.hr, hr⟩⟩
  | c :: cs, env, h, k, H, hK => by
    replace H : run P callf N keep fuel (compC P N keep c) env h (fun e env h => onNormal e (chainK P callf N keep fuel cs env h k) (k e env h)) = .yes := H
    obtain ⟨e, env1, h1, H1, hK1, hw1⟩ := run_sound hreg fuel (.code c) env h _ H hK
    rcases onNormal_yes H1 with ⟨rfl, H2⟩ | ⟨hne, H2⟩
    · obtain ⟨e2, env2, h2, H3, hK2, hw2⟩ := chain_sound hreg cs env1 h1 k H2 hK1
      refine ⟨e2, env2, h2, H3, hK2, fun c0 ds β a w hr hg Q hQ => ?_⟩
      refine wp_seq (wp_mono (hw1 ds β a w hr hg) fun ee a' w' hp => ?_)
      obtain ⟨rfl, β1, s1, r1⟩ := hp
      exact hw2 c0 ds β1 a' w' r1 (hg.le (s1.le hr.hr)) Q fun a2 w2 hp2 => hQ a2 w2 (hp2.trans hr.hr s1)
    · refine ⟨e, env1, h1, H2, hK1, fun c0 ds β a w hr hg Q hQ => ?_⟩
      refine wp_seq (wp_mono (hw1 ds β a w hr hg) fun ee a' w' hp => ?_)
      obtain ⟨rfl, hp⟩ := hp
      have := hQ a' w' hp
      cases e with
      | normal => exact absurd rfl hne
      | exit i => exact this
      | goto l => exact this
      | ret => exact this
theorem treeK_sound {f : Nat} (ht : TreeAt P f) (hm : P.follows .mixedOrders = true) {fuel : Nat} {callf : CallF} (hcall : CallSound P callf) {xs : List AV} {h : Hp} {k : AV → Hp → Ans} (H : treeK P fuel callf f xs h k = .yes) :
    ∃ v h', k v h' = .yes ∧ FuncT P f xs h v h' := by
  obtain ⟨fn, p, fs, fc, hf, hn, hbody, cy, cz⟩ := ht.ex
  obtain ⟨t, n, low⟩ := h
  unfold treeK at H
  rw [hf] at H
  replace H : (Option.rec (motive := fun _ => Ans) (.no 298) (fun (p : NewParts) =>
      cnd (argsOk xs (keepF fn)) (initEnv xs fun env => chainK P callf fn.ntmps (keepF fn) fuel [p.r0, p.a1, p.r3, p.l1, p.r12] env (.mk t n n) fun e env h1 =>
        onNormal e (midK P fn.ntmps (keepF fn) fuel p env h1 fun env h2 => run P callf fn.ntmps (keepF fn) fuel (compC P fn.ntmps (keepF fn) p.rest) env h2 fun e env h' => match e, h' with
        | .exit _, _ => .no 172
        | .goto _, _ => .no 173
        | _, .mk t' n' low' => resK P fn.results.toList env h' fun v => natMin low low' fun low'' => k v (.mk t' n' low'')) ((fun (e : Ex) (env : Tr AV) (h' : Hp) => (match e, h' with
        | .exit _, _ => .no 172
        | .goto _, _ => .no 173
        | _, .mk t' n' low' => resK P fn.results.toList env h' fun v => natMin low low' fun low'' => k v (.mk t' n' low'') : Ans)) e env h1)) (.no 174)) (fn.body.bind partsOf) : Ans) = .yes := H
  rw [hbody, Option.bind_some, partsOf_code] at H
  obtain ⟨hargs, H⟩ := cnd_yes H
  unfold initEnv at H
  rw [writeL_eq] at H
  have hK : EnvK (keepF fn) (putL xs 0 .leaf) := by
    intro i hi
    rw [get_putL]
    split
    · rename_i hb2
      have := argsOk_yes hargs i (by omega)
      rw [Nat.zero_add, hi] at this; cases this
    · exact get_leaf _
  obtain ⟨e, env1, h1, H1, hK1, hw1⟩ := chain_sound (regOK hm callf hcall fn.ntmps (keepF fn)) _ _ _ _ H hK
  have fin : ∃ e2 env2 h2, (e2 = .normal ∨ e2 = .ret) ∧ (∃ t' n' low', h2 = .mk t' n' low' ∧ (resK P fn.results.toList env2 h2 fun v => natMin low low' fun low'' => k v (.mk t' n' low'')) = .yes) ∧
      ∀ β a w, Rel fn.ntmps [] β (putL xs 0 .leaf) (.mk t n n) a w → GlobK P β → p.code.wp P (fun ex a' w' => ex = exOf e2 ∧ Post fn.ntmps [] β (.mk t n n) w env2 h2 a' w') a w := by
    have hend : ∀ {e2 : Ex} {env2 : Tr AV} {h2 : Hp}, (match e2, h2 with
        | .exit _, _ => (.no 172 : Ans)
        | .goto _, _ => .no 173
        | _, .mk t' n' low' => resK P fn.results.toList env2 h2 fun v => natMin low low' fun low'' => k v (.mk t' n' low'')) = .yes → (e2 = .normal ∨ e2 = .ret) ∧ (∃ t' n' low', h2 = .mk t' n' low' ∧ (resK P fn.results.toList env2 h2 fun v => natMin low low' fun low'' => k v (.mk t' n' low'')) = .yes) := by
      intro e2 env2 h2 he
      obtain ⟨t', n', low'⟩ := h2
      cases e2 with
      | normal => exact ⟨.inl rfl, t', n', low', rfl, he⟩
      | ret => exact ⟨.inr rfl, t', n', low', rfl, he⟩
      | exit i => cases he
      | goto l => cases he
    rcases onNormal_yes H1 with ⟨rfl, H2⟩ | ⟨hne, H2⟩
    · obtain ⟨env2, h2, H3, hK2, hw2⟩ := midK_sound cy cz H2 hK1
      obtain ⟨e3, env3, h3, H4, hK3, hw3⟩ := run_sound (regOK hm callf hcall fn.ntmps (keepF fn)) fuel (.code p.rest) _ _ _ H3 hK2
      obtain ⟨g1, g2⟩ := hend H4
      refine ⟨e3, env3, h3, g1, g2, fun β a w hr hg => ?_⟩
      refine hw1 (.seq (.seq (.region p.i13 p.ops13 false) (.block p.b2 (.loop p.loopC))) (.seq (.region p.i17 p.ops17 false) p.rest)) [] β a w hr hg _ fun a1 w1 hp => ?_
      obtain ⟨β1, s1, r1⟩ := hp
      have hg1 := hg.le (s1.le hr.hr)
      show (Code.seq _ _).wp P _ a1 w1
      refine wp_seq (wp_mono (hw2 [] β1 a1 w1 r1 hg1 (Exit.then (p.rest.wp P fun ex a' w' => ex = exOf e3 ∧ Post fn.ntmps [] β (.mk t n n) w env3 h3 a' w') (fun ex a' w' => ex = exOf e3 ∧ Post fn.ntmps [] β (.mk t n n) w env3 h3 a' w')) fun a2 w2 hp2 => ?_) fun ee a2 w2 he => ?_)
      · obtain ⟨β2, s2, r2⟩ := hp2
        show p.rest.wp P _ a2 w2
        refine wp_mono (hw3 [] β2 a2 w2 r2 (hg1.le (s2.le r1.hr))) fun ex a3 w3 hp3 => ?_
        exact ⟨hp3.1, (hp3.2.trans r1.hr s2).trans hr.hr s1⟩
      · cases ee with
        | normal => exact wp_seq he
        | exit i => exact he
        | goto l => exact he
        | ret => exact he
        | panic c => exact he
        | outgrown => exact he
    · obtain ⟨g1, g2⟩ := hend H2
      refine ⟨e, env1, h1, g1, g2, fun β a w hr hg => ?_⟩
      refine hw1 (.seq (.seq (.region p.i13 p.ops13 false) (.block p.b2 (.loop p.loopC))) (.seq (.region p.i17 p.ops17 false) p.rest)) [] β a w hr hg _ fun a1 w1 hp => ?_
      cases e with
      | normal => exact absurd rfl hne
      | exit i => exact ⟨rfl, hp⟩
      | goto l => exact ⟨rfl, hp⟩
      | ret => exact ⟨rfl, hp⟩
  obtain ⟨e2, env2, h2, he, ⟨t', n', low', rfl, H5⟩, hw⟩ := fin
  obtain ⟨v, H6, hv⟩ := resK_yes H5
  rw [natMin_eq] at H6
  refine ⟨v, _, H6, fun β w vs hr hg hx => .inl ⟨?_, ?_⟩⟩
  · unfold callFunc
    simp only [Sem.run_bind, run_program, Result.andThen_ok, hf]
    rw [hn]
    simp [hbody]
  · refine calls_of_wp hf hbody ?_
    have hr2 : HR β (.mk t n n) w := ⟨hr.blk, hr.inj, hr.fresh, Nat.le_refl _⟩
    have hlen := conL_len hx
    have hrel : Rel fn.ntmps [] β (putL xs 0 .leaf) (.mk t n n) { tmps := vs.toArray ++ Array.replicate (fn.ntmps - vs.toArray.size) undef, defers := [] } w := by
      refine ⟨hr2, fun i av hi => ?_, by simp; omega, rfl⟩
      rw [get_putL] at hi
      split at hi
      · rename_i hb2
        obtain ⟨u, u1, u2⟩ := conL_get hx hi
        rw [Nat.sub_zero] at u1
        rw [u2]
        congr 1
        have hi2 : i < vs.length := by omega
        simp [Array.getD, hi2]
        rw [if_pos (by omega)]
        rw [List.getElem?_eq_getElem hi2] at u1
        injection u1 with u1
        exact u1.symm
      · rw [get_leaf] at hi; cases hi
    refine wp_mono (hw β _ w hrel hg) fun ex a' w' hp => ?_
    obtain ⟨rfl, β', s1, r1⟩ := hp
    obtain ⟨u, g1, g2⟩ := hv fn.ntmps [] β' a' w' r1
    have s2 : Stp β (.mk t n low) w β' (.mk t' n' (min low low')) w' := by
      refine ⟨⟨s1.hr.blk, s1.hr.inj, s1.hr.fresh, ?_⟩, s1.nx, Nat.min_le_left _ _, s1.old, s1.dom, fun b c κ hb e => ?_, ⟨s1.kept.os, s1.kept.tape, s1.kept.output, s1.kept.size, fun c hc hne => ?_⟩⟩
      · have := s1.hr.low
        exact Nat.le_trans (Nat.min_le_right _ _) this
      · rcases s1.new b c κ hb e with h5 | ⟨x, κ', y, a1, a2, a3⟩
        · exact .inl h5
        · exact .inr ⟨x, κ', y, Nat.le_trans (Nat.min_le_right _ _) a1, a2, a3⟩
      · exact s1.kept.blocks c hc fun b κ x hb hx => hne b κ x (Nat.le_trans (Nat.min_le_right _ _) hb) hx
    rcases he with rfl | rfl
    · exact ⟨r1.defers, u, g1, β', u, rfl, s2, g2⟩
    · exact ⟨r1.defers, u, g1, β', u, rfl, s2, g2⟩
end Go.Ev
end
