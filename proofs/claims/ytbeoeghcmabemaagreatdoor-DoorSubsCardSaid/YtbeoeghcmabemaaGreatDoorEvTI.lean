/- The evaluator: the sort, and what it leaves. -/
import Derived.Test.YtbeoeghcmabemaaGreatDoorEvTF
set_option linter.unusedVariables false
set_option linter.unusedSectionVars false
set_option linter.unusedSimpArgs false
namespace Go.Ev
open Go.RowKit
variable {P : Program}

theorem perm_of_sub {α : Type} : ∀ {l m : List α}, l.Nodup → (∀ x ∈ l, x ∈ m) → m.length ≤ l.length → l.Perm m
  | [], m, _, _, h => by
    have : m = [] := List.eq_nil_of_length_eq_zero (by simpa using h)
    rw [this]
  | a :: l, m, hn, hs, h => by
    obtain ⟨s, t, rfl⟩ := List.append_of_mem (hs a (List.mem_cons_self ..))
    have hn' := List.nodup_cons.1 hn
    have hp : l.Perm (s ++ t) := perm_of_sub hn'.2 (fun x hx => by
      have h1 := hs x (List.mem_cons_of_mem _ hx)
      have h2 : x ≠ a := fun e => hn'.1 (e ▸ hx)
      rw [List.mem_append] at h1 ⊢
      rcases h1 with h1 | h1
      · exact .inl h1
      · rcases List.mem_cons.1 h1 with h1 | h1
        · exact absurd h1 h2
        · exact .inr h1) (by simp at h ⊢; omega)
    exact (hp.cons a).trans List.perm_middle.symm
theorem nodup_of_map {α β : Type} (f : α → β) : ∀ {l : List α}, (l.map f).Nodup → l.Nodup
  | [], _ => .nil
  | a :: l, h => by
    rw [List.map_cons, List.nodup_cons] at h
    exact List.nodup_cons.2 ⟨fun hm => h.1 (List.mem_map.2 ⟨a, hm, rfl⟩), nodup_of_map f h.2⟩
theorem cellsT_get : ∀ {l : List NT} {q : Nat} {y : NT}, l[q]? = some y → (cellsT l)[3 * q]? = some y.a ∧ (cellsT l)[3 * q + 1]? = some y.b ∧ (cellsT l)[3 * q + 2]? = some y.c
  | [], q, y, h => by simp at h
  | z :: l, 0, y, h => by injection h with h; subst h; exact ⟨rfl, rfl, rfl⟩
  | z :: l, q + 1, y, h => by
    have ih := cellsT_get (l := l) (q := q) (y := y) h
    rw [show 3 * (q + 1) = 3 * q + 3 by omega, show 3 * q + 3 + 1 = 3 * q + 1 + 3 by omega, show 3 * q + 3 + 2 = 3 * q + 2 + 3 by omega]
    exact ih
theorem cellsT_len : ∀ l : List NT, (cellsT l).length = 3 * l.length
  | [] => rfl
  | z :: l => by
    show (z.cells ++ cellsT l).length = _
    rw [List.length_append, cellsT_len l]
    simp [NT.cells]; omega
theorem exec_callf {o : Oper} {fs : Nat} {args : Array Operand} {ats : Array TypeId} (ho : o.op = .call ⟨.value (.func fs), args, ats⟩) (a : Act) (w : World) : (execOp a.eval o).run P w = (callFunc fs (args.toList.map a.eval).toArray).run P w := by
  have : execOp a.eval o = (do let d ← Go.resolve a.eval ⟨.value (.func fs), args, ats⟩ o.type; invoke d.target d.args) := by
    unfold execOp; rw [ho]
  rw [this]
  unfold Go.resolve Deferred.ofValue invoke
  have : a.eval (.func fs) = .func (.func fs) #[] #[] := rfl
  simp only [this, Sem.run_bind, Sem.run_pure, Result.andThen_ok]
  congr 2
  apply Array.ext'
  simp
theorem All2.getl {α β : Type} {R : α → β → Prop} {l : List α} {m : List β} (h : All2 R l m) : ∀ {i : Nat} {a : α}, l[i]? = some a → ∃ b, m[i]? = some b ∧ R a b := by
  induction h with
  | nil => intro i b h; simp at h
  | cons hr h ih =>
    intro i b hb
    cases i with
    | zero => injection hb with hb; subst hb; exact ⟨_, rfl, hr⟩
    | succ i => exact ih hb
theorem getD_put_ne' {a : Act} {d : Option Tmp} {t : Nat} {u : Value} (h : d ≠ some t) : (a.put d u).tmps.getD t undef = a.tmps.getD t undef := by
  cases d with
  | none => rfl
  | some d => exact getD_put_ne (fun e => h (by rw [e]))
/-- The rows of the nodes. -/
noncomputable def rowOf (s : Sg) (x : NT) : Row3 := (x.p, (@con s (fun _ => none) x.b).getD (.agg #[]), (@con s (fun _ => none) x.c).getD (.agg #[]))
theorem rowOf_of {s : Sg} {β : Bt} {x : NT} {m : MapEntry} (h : @NtR s β x m) : m.val = .agg #[.string (bytesOf x.p), (rowOf s x).2.1, (rowOf s x).2.2] ∧ flatV (rowOf s x).2.1 = true ∧ flatV (rowOf s x).2.2 = true ∧
    (∀ β', @con s β' x.a = some (.string (bytesOf x.p)) ∧ @con s β' x.b = some (rowOf s x).2.1 ∧ @con s β' x.c = some (rowOf s x).2.2) := by
  obtain ⟨b, c, e, hb, hc, f1, f2⟩ := @NtR.val s β x m h
  have hb' : ∀ β', @con s β' x.b = some b := fun β' => by rw [← flat1_sg (s := s) (s' := s) (@NtR.fb s β x m h) β β']; exact hb
  have hc' : ∀ β', @con s β' x.c = some c := fun β' => by rw [← flat1_sg (s := s) (s' := s) (@NtR.fc s β x m h) β β']; exact hc
  have e1 : (rowOf s x).2.1 = b := by unfold rowOf; dsimp only; rw [hb']; rfl
  have e2 : (rowOf s x).2.2 = c := by unfold rowOf; dsimp only; rw [hc']; rfl
  rw [e1, e2]
  refine ⟨e, f1, f2, fun β' => ⟨?_, hb' β', hc' β'⟩⟩
  obtain ⟨n, ea, ha⟩ := @NtR.a s β x m h
  rw [ea] at ha ⊢
  simpa only [con] using ha
section
variable {N keep fuel : Nat} {p : NewParts} {ms : Array MapEntry} {clock cbm ir bt cbt n2 : Nat} {β0 : Bt} {w0 : World} {ds : List Deferred} {vs : List MapEntry} {β : Bt} {h : Hp} {a : Act} {w : World} {x : Res} {fs fc : Nat}
noncomputable def env5 (bt : Nat) : Tr AV := Tr.set (path 4) (some (.ptr bt 0)) .leaf
noncomputable def h6 (t2 : Tr Blk) (ni bt cnt lo : Nat) (x : Res) (l : List NT) : Hp :=
  .mk (((t2.set (path ni) none).set (path bt) (some (.cells x.ty x.l.length (putL x.l 0 .leaf) true x.sz))).set (path x.bg) (some (.cells x.e3 (3 * cnt) (putL (cellsT l) 0 .leaf) false 3))) x.n4 lo
/-- The sort, and what it leaves. -/
theorem mid_end (sA : Sg) [Sl] (cx : Cx P N keep p ms clock cbm ir bt cbt n2 β0 w0) (cz : Cz P N keep p fs fc) {es : List (AV × AV × Nat)} {nts : List NT} (hent : All2 (@NtR sA β0) nts ms.toList) (hrise : riseB (srtT nts) = true) (hms : ms.size < 100000)
    {t2 : Tr Blk} {low2 ni : Nat} {β2 : Bt} (hr0 : @HR sA β2 (.mk t2 n2 low2) w0) (hβ : ∀ b, b ≤ bt → β0 b = β2 b) (hni : ∃ κ, β2 ni = some (ir, κ)) (hnit : ∃ y, t2.get (path ni) = some y) (hbtt : ∃ y, t2.get (path bt) = some y) (hbtni : bt < ni) {K : Ans} (hp : pre17 P keep p bt x ms.size K = .yes)
    (li : LInv ms clock cbm ir bt cbt n2 β0 w0 N ds vs β h a w) (hvs : vs.length = ms.size) (hx : IsRes n2 bt ms.size h x) {Q : Exit → Act → World → Prop}
    (hQ : ∀ a' w', @Post sA N ds β2 (.mk t2 n2 low2) w0 (env5 bt) (h6 t2 ni bt ms.size (min low2 bt) x (srtT nts)) a' w' → Q .normal a' w') : (Code.region p.i17 p.ops17 false).wp P Q a w := by
  obtain ⟨ct, hct, hctl⟩ := hx.tree
  obtain ⟨cg, hcg, hcgl⟩ := hx.bg
  have hlt := hx.lt
  have hge := hx.ge
  have hbtn2 := cx.lt
  have hnx := hx.nx
  obtain ⟨κ0, hbt0⟩ := cx.at_
  -- the blocks of the tree and of the slice
  obtain ⟨-, cb1, κ1, hb1, Bt1⟩ := @HR.blk (sgOf ir vs) β h w li.hr bt _ hct
  have hbt1 : β bt = some (cbt, κ0) := by rw [li.old bt hbtn2, hbt0]
  rw [hbt1] at hb1
  injection hb1 with hb1
  injection hb1 with hb1 hb2
  subst hb1 hb2
  obtain ⟨-, cbg, κg, hbg, Bg1⟩ := @HR.blk (sgOf ir vs) β h w li.hr x.bg _ hcg
  obtain ⟨cs, fz, hcs, hfz, hel, hsz1, -, hsz2⟩ := Bg1
  obtain ⟨ct1, fzt, hct1, hfzt, helt, hszt, hszt2, -⟩ := Bt1
  have hsz3 : cs.size = κg * 3 := hsz2 rfl
  have hcntκ : ms.size ≤ κg := by omega
  have hcbgw : cbg < w.heap.size := (Array.getElem?_eq_some_iff.1 hcs).1
  have hcbtw : cbt < w.heap.size := (Array.getElem?_eq_some_iff.1 hct1).1
  have hne : cbg ≠ cbt := fun e => by
    have := @HR.inj (sgOf ir vs) β h w li.hr x.bg bt _ _ cbg κg κ0 hcg hct hbg (by rw [e]; exact hbt1)
    omega
  have hnew : w0.heap.size ≤ cbg := by
    rcases li.new x.bg cbg κg hge hbg with h1 | h1
    · exact h1
    · exact absurd h1 hne
  have hglob : GlobK P β := fun g hgl => by
    obtain ⟨κ, e⟩ := cx.glob g hgl
    have : g < n2 := by
      rcases Nat.lt_or_ge bt g with h | h
      · rw [cx.gt g h] at e; cases e
      · omega
    exact ⟨κ, by rw [li.old g this]; exact e⟩
  -- the nodes in the order in which they were met
  have hperm : vs.Perm ms.toList := perm_of_sub (nodup_of_map _ li.nod) li.sub (by rw [hvs]; simp)
  obtain ⟨nts', hnp, hall⟩ := hent.perm hperm.symm
  have hnl : nts'.length = ms.size := by rw [hall.len, hvs]
  have hsl : (srtT nts).length = ms.size := by rw [(srtT_perm nts).length_eq, ← hnp.length_eq, hnl]
  have hr17 : @HR (sgOf ir vs) β (h17 bt x) w := by
    refine @HR.mk (sgOf ir vs) β (h17 bt x) w (fun b y hb => ?_) (fun b b' y y' c κ κ' hb hb' _ _ => ?_) (fun i hi => @HR.fresh (sgOf ir vs) β h w li.hr i (by rw [← hnx]; exact hi)) (Nat.le_refl _)
    · unfold h17 at hb
      replace hb : (Tr.set (path bt) (some (.cells x.ty x.l.length (putL x.l 0 .leaf) true x.sz)) .leaf).get (path b) = some y := hb
      rw [get_set] at hb
      split at hb
      · rename_i e
        have e' := path_inj e
        injection hb with hb
        subst hb
        refine ⟨show b < x.n4 by omega, cbt, κ0, by rw [e']; exact hbt1, ct1, fzt, hct1, hfzt, fun i hi => ?_, hszt, hszt2, fun e => by cases e⟩
        obtain ⟨av, u, g1, g2, g3, g4⟩ := helt i hi
        have hi' := List.getElem?_eq_getElem hi
        refine ⟨x.l[i], u, ?_, g2, ?_, g4⟩
        · rw [get_putL, if_pos (by omega), Nat.sub_zero, hi']
        · have := (hctl i _ hi').1
          rw [g1] at this
          injection this with this
          rw [← this]; exact g3
      · rw [get_leaf] at hb; cases hb
    · have one : ∀ b y, (h17 bt x).tr.get (path b) = some y → b = bt := fun b y hb => by
        replace hb : (Tr.set (path bt) (some (.cells x.ty x.l.length (putL x.l 0 .leaf) true x.sz)) .leaf).get (path b) = some y := hb
        rw [get_set] at hb
        split at hb
        · rename_i e; exact path_inj e
        · rw [get_leaf] at hb; cases hb
      rw [one b y hb, one b' y' hb']
  have hcv : @CvR (sgOf ir vs) β (fun t => (envS bt).get (path t)) a.tmps := fun t av ht => by
    rcases envS_get ht with ⟨rfl, rfl⟩ | ⟨rfl, rfl⟩
    · rw [li.t4]; simp only [con, hbt1]; rfl
    · rw [li.t60]; exact sgOf_it ir _ β
  obtain ⟨o, args, ats, hops, ho, hargs, hgd, hdst⟩ := cz.o17
  obtain ⟨hK, hw⟩ := @pre17_yes P N keep p bt ms.size x fs fc (sgOf ir vs) _ cz cx.k4 cx.k60 K hp
  replace hw := hw hlt (by omega)
  have key : wpList P p.ops17 Q (p.ops17.toList.dropLast ++ [o]) a w := by
    refine wpList_cut (hw ds β a w hr17 hcv li.sz li.dfr hglob _ fun a' w' c78 c4 hN hd o1 o2 o3 o4 o5 => ?_)
    show if _ then _ else _
    rw [if_pos (wanted_none hgd _ _)]
    left
    unfold Oper.wp
    have v78 : a'.tmps.getD 78 undef = .slice (some ⟨cbg, 0, none⟩) (nts'.map (rowOf sA)).length κg := by
      simp only [con, hbg] at c78
      rw [Option.bind_some, if_pos (.inr (by omega))] at c78
      injection c78 with c78
      rw [← c78, List.length_map, hnl]
      rfl
    have v4 : a'.tmps.getD 4 undef = .pointer (some ⟨cbt, 0, none⟩) := by
      simp only [con, hbt1] at c4
      injection c4 with c4
      exact c4.symm
    have hrun : (execOp a'.eval o).run P w' = (callFunc fs #[.slice (some ⟨cbg, 0, none⟩) (nts'.map (rowOf sA)).length κg, .func (.func fc) #[] #[]]).run P w' := by
      rw [exec_callf ho, hargs]
      show (callFunc fs #[a'.tmps.getD 78 undef, .func (.func fc) #[] #[]]).run P w' = _
      rw [v78]
    rw [hrun]
    have hA : ∀ r ∈ nts'.map (rowOf sA), r.1.all (· < 256) = true ∧ flatV r.2.1 = true ∧ flatV r.2.2 = true := by
      intro r hr
      obtain ⟨y, hy, rfl⟩ := List.mem_map.1 hr
      obtain ⟨i, hi⟩ := List.mem_iff_getElem?.1 hy
      obtain ⟨m, -, hm⟩ := hall.getl hi
      obtain ⟨-, f1, f2, -⟩ := rowOf_of hm
      exact ⟨@NtR.all sA β0 y m hm, f1, f2⟩
    have hB : ∀ q r, (nts'.map (rowOf sA))[q]? = some r → cs[3 * q]? = some (.string (bytesOf r.1)) ∧ cs[3 * q + 1]? = some r.2.1 ∧ cs[3 * q + 2]? = some r.2.2 := by
      intro q r hr
      rw [List.getElem?_map, Option.map_eq_some_iff] at hr
      obtain ⟨y, hy, rfl⟩ := hr
      obtain ⟨m, hm1, hm⟩ := hall.getl hy
      obtain ⟨ev, f1, f2, -⟩ := rowOf_of hm
      have hq : q < ms.size := by
        have := (List.getElem?_eq_some_iff.1 hm1).1
        omega
      obtain ⟨c1, c2, c3⟩ := hcgl q hq
      have hcl : m.key :: m.val.cells.toList = [m.key, .string (bytesOf y.p), (rowOf sA y).2.1, (rowOf sA y).2.2] := by rw [ev]; rfl
      have cell : ∀ (j : Nat) (v : Value), j < 3 → [m.key, .string (bytesOf y.p), (rowOf sA y).2.1, (rowOf sA y).2.2][j + 1]? = some v → flatV v = true → cg.get (path (3 * q + j)) = some (.sym (4 * q + (j + 1))) → cs[3 * q + j]? = some v := by
        intro j v hj hv hfv hg
        obtain ⟨av, u, g1, g2, g3, g4⟩ := hel (3 * q + j) (by omega)
        rw [hg] at g1
        injection g1 with g1
        subst g1
        rw [sgOf_at ir (q := j + 1) hm1 (by omega) (by omega) (by rw [hcl]; exact hv) hfv β] at g3
        injection g3 with g3
        rw [g2, g3]
      exact ⟨cell 0 _ (by omega) rfl rfl c1, cell 1 _ (by omega) rfl f1 c2, cell 2 _ (by omega) rfl f2 c3⟩
    obtain ⟨hs1, hs2⟩ := cz.sort w' cbg κg (nts'.map (rowOf sA)) cs x.e3 fz (by rw [o5 _ hcbgw]; exact hcs) hfz (by rw [List.length_map, hnl]; exact hms) (by rw [List.length_map, hnl]; exact hcntκ) hsz3 hA hB
    · rw [hs1]
      refine hs2.mono fun e w2 he => ?_
      obtain ⟨rfl, d', cs', hdp, hds, q1, q2, q3, q4, q5, q6, q7, q8⟩ := he
      show Q .normal (a'.put o.dst (.tuple #[])) w2
      have hd' : d' = (srtT nts).map (rowOf sA) := rows_eq (fun _ => rfl) hrise (hdp.trans (hnp.map (rowOf sA))) hds
      -- the numbers of the blocks
      let β6 : Bt := fun b => if b < n2 then β2 b else β b
      have b6lo : ∀ b, b < n2 → β6 b = β2 b := fun b hb => if_pos hb
      have b6hi : ∀ b, n2 ≤ b → β6 b = β b := fun b hb => if_neg (by omega)
      have hfr : ∀ i, n2 ≤ i → β2 i = none := fun i hi => @HR.fresh sA β2 _ w0 hr0 i hi
      have hle : Le β2 β6 := fun b y hb => by
        rcases Nat.lt_or_ge b n2 with h1 | h1
        · rw [b6lo b h1]; exact hb
        · rw [hfr b h1] at hb; cases hb
      have hbt2 : β2 bt = some (cbt, κ0) := by rw [← hβ bt (Nat.le_refl _), hbt0]
      have hbg6 : β6 x.bg = some (cbg, κg) := by rw [b6hi _ hge]; exact hbg
      have hbt6 : β6 bt = some (cbt, κ0) := by rw [b6lo _ hbtn2]; exact hbt2
      have low6 : ∀ b, b < n2 → ∀ y, β b = some y → β6 b = some y := fun b hb y hy => by
        rw [li.old b hb] at hy
        rw [b6lo b hb]
        rcases Nat.lt_or_ge bt b with h1 | h1
        · rw [cx.gt b h1] at hy; cases hy
        · rw [← hβ b h1]; exact hy
      -- what lies where it lay
      have hkeep : ∀ c, c < w0.heap.size → c ≠ cbt → c ≠ ir → w2.heap[c]? = w0.heap[c]? := fun c h1 h2 h3 => by
        have hcw : c < w.heap.size := Nat.lt_of_lt_of_le h1 li.size
        rw [q5 c (Nat.lt_of_lt_of_le hcw o4) (by omega), o5 c hcw, li.block c h1 h2 h3]
      have hct2 : w2.heap[cbt]? = w.heap[cbt]? := by rw [q5 cbt (Nat.lt_of_lt_of_le hcbtw o4) (fun e => hne e.symm), o5 cbt hcbtw]
      have h6get : ∀ b y, (h6 t2 ni bt ms.size (min low2 bt) x (srtT nts)).tr.get (path b) = some y → (b = x.bg ∧ y = .cells x.e3 (3 * ms.size) (putL (cellsT (srtT nts)) 0 .leaf) false 3) ∨ (b = bt ∧ y = .cells x.ty x.l.length (putL x.l 0 .leaf) true x.sz) ∨ (b ≠ bt ∧ b ≠ ni ∧ t2.get (path b) = some y) := fun b y hb => by
        replace hb : (((t2.set (path ni) none).set (path bt) (some (.cells x.ty x.l.length (putL x.l 0 .leaf) true x.sz))).set (path x.bg) (some (.cells x.e3 (3 * ms.size) (putL (cellsT (srtT nts)) 0 .leaf) false 3))).get (path b) = some y := hb
        rw [get_set, get_set, get_set] at hb
        split at hb
        · rename_i e; injection hb with hb; exact .inl ⟨path_inj e, hb.symm⟩
        · split at hb
          · rename_i e; injection hb with hb; exact .inr (.inl ⟨path_inj e, hb.symm⟩)
          · rename_i e
            split at hb
            · cases hb
            · rename_i e2; exact .inr (.inr ⟨fun h => e (by rw [h]), fun h => e2 (by rw [h]), hb⟩)
      obtain ⟨yn, hyn⟩ := hnit
      obtain ⟨κn, hκn⟩ := hni
      obtain ⟨yb, hyb⟩ := hbtt
      have oldb : ∀ b y, b ≠ bt → b ≠ ni → t2.get (path b) = some y → b < n2 ∧ ∃ c κ, β2 b = some (c, κ) ∧ c < w0.heap.size ∧ c ≠ cbt ∧ c ≠ ir ∧ @BlkR sA β2 κ w0.heap[c]? y := fun b y e1 e2 hb => by
        obtain ⟨r1, c, κ, r2, r3⟩ := @HR.blk sA β2 _ w0 hr0 b y hb
        refine ⟨r1, c, κ, r2, ?_, fun e => e1 (@HR.inj sA β2 _ w0 hr0 b bt y yb c κ κ0 hb hyb r2 (by rw [e]; exact hbt2)), fun e => e2 (@HR.inj sA β2 _ w0 hr0 b ni y yn c κ κn hb hyn r2 (by rw [e]; exact hκn)), r3⟩
        cases y with
        | cells e' len c ex esz => obtain ⟨cs, fz, e2, -⟩ := r3; exact (Array.getElem?_eq_some_iff.1 e2).1
        | map es clock => obtain ⟨ms, e2, -⟩ := r3; exact (Array.getElem?_eq_some_iff.1 e2).1
        | iter l p => exact (Array.getElem?_eq_some_iff.1 r3.1).1
        | miter b s => obtain ⟨_, _, _, e2⟩ := r3; exact (Array.getElem?_eq_some_iff.1 e2).1
      have hrF : @HR sA β6 (h6 t2 ni bt ms.size (min low2 bt) x (srtT nts)) w2 := by
        refine @HR.mk sA β6 _ w2 (fun b y hb => ?_) (fun b b' y y' c κ κ' hb hb' hc hc' => ?_) (fun i hi => ?_) ?_
        · rcases h6get b y hb with ⟨rfl, rfl⟩ | ⟨rfl, rfl⟩ | ⟨n1, n2', n3⟩
          · refine ⟨hlt, cbg, κg, hbg6, cs', fz, q6, fun i hi => hfz i (by omega), fun i hi => ?_, by omega, fun e => (by cases e), fun _ => by omega⟩
            have hq : i / 3 < (srtT nts).length := by omega
            obtain ⟨y, hy⟩ : ∃ y, (srtT nts)[i / 3]? = some y := ⟨_, List.getElem?_eq_getElem hq⟩
            have hyn := (srtT_perm nts).mem_iff.1 (List.mem_of_getElem? hy)
            obtain ⟨j, hj⟩ := List.mem_iff_getElem?.1 hyn
            obtain ⟨m, -, hm⟩ := hent.getl hj
            obtain ⟨-, f1, f2, hcn⟩ := rowOf_of hm
            obtain ⟨k1, k2, k3⟩ := hcn β6
            obtain ⟨p1, p2, p3⟩ := cellsT_get hy
            obtain ⟨r1, r2, r3⟩ := q8 (i / 3) (rowOf sA y) (by rw [hd', List.getElem?_map, hy]; rfl)
            have hcl := cellsT_len (srtT nts)
            have hi3 : i = 3 * (i / 3) ∨ i = 3 * (i / 3) + 1 ∨ i = 3 * (i / 3) + 2 := by omega
            have hget : (putL (cellsT (srtT nts)) 0 .leaf).get (path i) = (cellsT (srtT nts))[i]? := by
              rw [get_putL, if_pos (by omega), Nat.sub_zero]
            rw [hget]
            rcases hi3 with e | e | e
            · rw [e]; exact ⟨_, _, p1, r1, k1, rfl⟩
            · rw [e]; exact ⟨_, _, p2, r2, k2, f1⟩
            · rw [e]; exact ⟨_, _, p3, r3, k3, f2⟩
          · refine ⟨show b < x.n4 by omega, cbt, κ0, hbt6, ct1, fzt, by rw [hct2]; exact hct1, hfzt, fun i hi => ?_, hszt, hszt2, fun e => by cases e⟩
            obtain ⟨av, u, g1, g2, g3, g4⟩ := helt i hi
            have hi' := List.getElem?_eq_getElem hi
            refine ⟨x.l[i], u, ?_, g2, ?_, g4⟩
            · rw [get_putL, if_pos (by omega), Nat.sub_zero, hi']
            · obtain ⟨c1, c2⟩ := hctl i _ hi'
              rw [g1] at c1
              injection c1 with c1
              rw [c1] at g3
              rcases c2 with c2 | c2
              · subst c2
                have hsl2 := hx.slice _ hi'
                rw [hsl2] at g3 ⊢
                simp only [con, hbg] at g3
                simp only [con, hbg6]
                exact g3
              · exact low_sg (s := sgOf ir vs) (s' := sA) c2 low6 g3
          · obtain ⟨r1, c, κ, r2, r3, r4, r5, r6⟩ := oldb b y n1 n2' n3
            refine ⟨show b < x.n4 by omega, c, κ, hle _ _ r2, ?_⟩
            rw [hkeep c r3 r4 r5]
            exact @BlkR.mono sA β2 β6 hle _ _ _ r6
        · have cls : ∀ b y, (h6 t2 ni bt ms.size (min low2 bt) x (srtT nts)).tr.get (path b) = some y → ∀ c κ, β6 b = some (c, κ) → (b = x.bg ∧ c = cbg) ∨ (b = bt ∧ c = cbt) ∨ (c < w0.heap.size ∧ c ≠ cbt ∧ β2 b = some (c, κ) ∧ t2.get (path b) = some y) := fun b y hb c κ hc => by
            rcases h6get b y hb with ⟨rfl, rfl⟩ | ⟨rfl, rfl⟩ | ⟨n1, n2', n3⟩
            · rw [hbg6] at hc; injection hc with hc; injection hc with hc _; exact .inl ⟨rfl, hc.symm⟩
            · rw [hbt6] at hc; injection hc with hc; injection hc with hc _; exact .inr (.inl ⟨rfl, hc.symm⟩)
            · obtain ⟨r1, c', κ', r2, r3, r4, r5, r6⟩ := oldb b y n1 n2' n3
              rw [b6lo b r1] at hc
              have h9 := hc
              rw [r2] at h9
              injection h9 with h9
              injection h9 with h9 h10
              subst h9
              exact .inr (.inr ⟨r3, r4, hc, n3⟩)
          rcases cls b y hb c κ hc with ⟨e1, e2⟩ | ⟨e1, e2⟩ | ⟨e1, e2, e3, e4⟩
          · rcases cls b' y' hb' c κ' hc' with ⟨f1, f2⟩ | ⟨f1, f2⟩ | ⟨f1, f2, f3, f4⟩
            · rw [e1, f1]
            · exact absurd (e2.symm.trans f2) hne
            · omega
          · rcases cls b' y' hb' c κ' hc' with ⟨f1, f2⟩ | ⟨f1, f2⟩ | ⟨f1, f2, f3, f4⟩
            · exact absurd (f2.symm.trans e2) hne
            · rw [e1, f1]
            · exact absurd e2 f2
          · rcases cls b' y' hb' c κ' hc' with ⟨f1, f2⟩ | ⟨f1, f2⟩ | ⟨f1, f2, f3, f4⟩
            · omega
            · exact absurd f2 e2
            · exact @HR.inj sA β2 _ w0 hr0 b b' y y' c κ κ' e4 f4 e3 f3
        · replace hi : x.n4 ≤ i := hi
          rw [b6hi i (by omega)]
          exact @HR.fresh (sgOf ir vs) β h w li.hr i (by rw [← hnx]; exact hi)
        · show min low2 bt ≤ x.n4
          have := Nat.min_le_right low2 bt
          omega
      refine hQ _ _ ⟨β6, @Stp.mk sA β2 (.mk t2 n2 low2) w0 β6 (h6 t2 ni bt ms.size (min low2 bt) x (srtT nts)) w2 hrF (show n2 ≤ x.n4 by omega) (Nat.min_le_left _ _) b6lo (fun b y hb e => by
        replace hb : b < n2 := hb
        rcases h6get b y e with ⟨g, -⟩ | ⟨g, -⟩ | ⟨-, -, g⟩
        · omega
        · exact ⟨yb, by rw [g]; exact hyb⟩
        · exact ⟨y, g⟩) (fun b c κ hb e => ?_) ⟨q1.trans (o1.trans li.os), q2.trans (o2.trans li.tape), q3.trans (o3.trans li.output), Nat.le_trans li.size (Nat.le_trans o4 q4), fun c hc hnn => ?_⟩, @Rel.mk sA N ds β6 (env5 bt) _ _ w2 hrF (fun t av ht => ?_) (by rw [put_size]; exact hN) (by rw [put_defers]; exact hd)⟩
      · rw [b6hi b hb] at e
        rcases li.new b c κ hb e with r | r
        · exact .inl r
        · exact .inr ⟨bt, κ0, yb, Nat.min_le_right _ _, hbtn2, hyb, by rw [r]; exact hbt2⟩
      · refine hkeep c hc (fun e => hnn bt κ0 yb (Nat.min_le_right _ _) hyb (by rw [e]; exact hbt2)) fun e => hnn ni κn yn ?_ hyn (by rw [e]; exact hκn)
        exact Nat.le_trans (Nat.min_le_right _ _) (Nat.le_of_lt hbtni)
      · unfold env5 at ht
        rw [get_set] at ht
        split at ht
        · rename_i e
          have e' := path_inj e
          injection ht with ht
          subst ht
          rw [e', getD_put_ne' hdst, v4]
          simp only [con, hbt6]; rfl
        · rw [get_leaf] at ht; cases ht
  rw [← hops] at key
  exact wp_region_list key
end
end Go.Ev
namespace Go.Ev
open Go.RowKit
variable {P : Program}

theorem EntR.mem [Sg] {β : Bt} : ∀ {es : List (AV × AV × Nat)} {ms : List MapEntry}, EntR β es ms → ∀ m ∈ ms, ∃ e ∈ es, m.born = e.2.2
  | [], [], _, m, hm => by cases hm
  | [], _ :: _, h, _, _ => h.elim
  | _ :: _, [], h, _, _ => h.elim
  | e :: es, m :: ms, ⟨_, _, h3, h⟩, x, hx => by
    rcases List.mem_cons.1 hx with rfl | hx
    · exact ⟨e, List.mem_cons_self .., h3⟩
    · obtain ⟨e', h1, h2⟩ := EntR.mem h x hx
      exact ⟨e', List.mem_cons_of_mem _ h1, h2⟩
theorem borns_of [Sg] {β : Bt} {clock : Nat} : ∀ {es : List (AV × AV × Nat)} {ms : List MapEntry}, EntR β es ms → bornsB clock es = true → (∀ m ∈ ms, m.born < clock) ∧ (ms.map (·.born)).Nodup
  | [], [], _, _ => ⟨(fun m hm => by cases hm), .nil⟩
  | [], _ :: _, h, _ => h.elim
  | _ :: _, [], h, _ => h.elim
  | e :: es, m :: ms, ⟨_, _, h3, h⟩, hb => by
    unfold bornsB at hb
    rw [Bool.and_eq_true, Bool.and_eq_true] at hb
    obtain ⟨i1, i2⟩ := borns_of h hb.2
    refine ⟨fun x hx => ?_, ?_⟩
    · rcases List.mem_cons.1 hx with rfl | hx
      · rw [h3]; exact blt_of hb.1.1
      · exact i1 x hx
    · rw [List.map_cons, List.nodup_cons]
      refine ⟨fun hm => ?_, i2⟩
      obtain ⟨x, hx, hxe⟩ := List.mem_map.1 hm
      obtain ⟨e', he', hee⟩ := h.mem x hx
      have := List.all_eq_true.1 hb.1.2 e' he'
      rw [← h3, ← hee, hxe, Nat.beq_refl] at this
      cases this
theorem lowK_yes {n : Nat} {c : Tr AV} {x : Ans} : ∀ (m j : Nat), lowK n c x m j = .yes → x = .yes ∧ ∀ q, j ≤ q → q < j + m → ∃ a, c.get (path q) = some a ∧ lowA1 n a = true := by
  intro m
  induction m with
  | zero => exact fun j H => ⟨H, fun q h1 h2 => by omega⟩
  | succ m ih =>
    intro j H
    replace H : (c.getP (path j) (.no 318) fun a => cnd (lowA1 n a) (fNat (Nat.succ j) (lowK n c x m)) (.no 319)) = .yes := H
    obtain ⟨a, ha, H⟩ := getP_yes H
    obtain ⟨h1, H⟩ := cnd_yes H
    rw [fNat_eq] at H
    obtain ⟨hx, hr⟩ := ih _ H
    refine ⟨hx, fun q g1 g2 => ?_⟩
    by_cases hq : q = j
    · subst hq; exact ⟨a, ha, h1⟩
    · exact hr q (by omega) (by omega)
theorem NtR.any [Sg] {β β' : Bt} {x : NT} {m : MapEntry} (h : NtR β x m) : NtR β' x m := by
  obtain ⟨h1, ⟨b, c, e, hb, hc, f1, f2⟩, h3, ⟨n, ea, ha⟩, h5, h6⟩ := h
  refine ⟨h1, ⟨b, c, e, by rw [← flat1_sg h5 β β']; exact hb, by rw [← flat1_sg h6 β β']; exact hc, f1, f2⟩, h3, ⟨n, ea, ?_⟩, h5, h6⟩
  rw [ea] at ha ⊢
  simpa only [con] using ha
theorem All2.imp {α β : Type} {R S : α → β → Prop} (hrs : ∀ a b, R a b → S a b) {l : List α} {m : List β} (h : All2 R l m) : All2 S l m := by
  induction h with
  | nil => exact .nil
  | cons hr _ ih => exact .cons (hrs _ _ hr) ih
section
variable {N keep fuel : Nat} {p : NewParts} {fs fc : Nat}
/-- A loop, and what it leaves, whatever comes first. -/
theorem loopPart_ex [Sl] (cy : Cy P N keep p) (k4 : inMask keep 4 = true) (k60 : inMask keep 60 = true) (k63 : inMask keep 63 = false) {bt n2 cnt : Nat} {h : Hp} {k : Res → Ans} (H : loopPart P N keep fuel p bt n2 cnt h k = .yes) : ∃ x, k x = .yes := by
  letI sg : Sg := sgOf 0 []
  obtain ⟨h', H'⟩ := loopK_ex cy k4 k60 k63 _ _ _ _ H
  obtain ⟨x, -, hx⟩ := resK2_yes H'
  exact ⟨x, hx⟩
/-- What lies between: the loop over the nodes, and the sort. -/
theorem midK_sound [sA : Sg] [Sl] (cy : Cy P N keep p) (cz : Cz P N keep p fs fc) {env : Tr AV} {h : Hp} {k : Tr AV → Hp → Ans} (H : midK P N keep fuel p env h k = .yes) (hK : EnvK keep env) :
    ∃ env' h', k env' h' = .yes ∧ EnvK keep env' ∧ ∀ ds β a w, @Rel sA N ds β env h a w → GlobK P β → ∀ Q : Exit → Act → World → Prop, (∀ a' w', @Post sA N ds β h w env' h' a' w' → Q .normal a' w') →
      (Code.seq (.region p.i13 p.ops13 false) (.block p.b2 (.loop p.loopC))).wp P (Exit.then ((Code.region p.i17 p.ops17 false).wp P Q) Q) a w := by
  unfold midK at H
  obtain ⟨ex, env1, h1, H1, hK1, hw1⟩ := run_sound (regOK cy.hm noCall noCall_sound N keep) fuel (.code (.region p.i13 p.ops13 false)) env h _ H hK
  obtain ⟨rfl, H2⟩ := onNormal_no H1
  obtain ⟨y, g60, H3⟩ := getP_yes H2
  obtain ⟨t2, n2, low2⟩ := h1
  split at H3
  rotate_left
  · cases H3
  rename_i ni t2' n2' low2' heq
  injection heq with q1 q2 q3
  subst q1 q2 q3
  obtain ⟨bl, gni, H4⟩ := getP_yes H3
  split at H4
  rotate_left
  · cases H4
  rename_i bm since
  obtain ⟨bl, gbm, H5⟩ := getP_yes H4
  split at H5
  rotate_left
  · cases H5
  rename_i es clock
  obtain ⟨hb, H6⟩ := cnd_yes H5
  obtain ⟨y, g4, H7⟩ := getP_yes H6
  split at H7
  rotate_left
  · cases H7
  rename_i bt
  obtain ⟨bl, gbt, H8⟩ := getP_yes H7
  split at H8
  rotate_left
  · cases H8
  rename_i ty m c ex sz
  obtain ⟨hc, H9⟩ := cnd_yes H8
  rw [fNat_eq] at H9
  obtain ⟨H10, hlow⟩ := lowK_yes _ _ H9
  simp only [Bool.and_eq_true] at hc hb
  obtain ⟨⟨⟨⟨⟨⟨c1, c2⟩, c3⟩, c4⟩, k4⟩, k60⟩, c7⟩ := hc
  have k63 : inMask keep 63 = false := by simpa using c7
  have c2' := blt_of c2
  have c3' := blt_of c3
  have c4' := Nat.le_of_ble_eq_true c4
  have hsc := Nat.eq_of_beq_eq_true hb.1
  subst hsc
  have hb2 := hb.2
  cases hnt : ntL es with
  | none => rw [hnt] at H10; cases H10
  | some nts =>
  rw [hnt] at H10
  replace H10 : lenK (es.map (·.1)) (fun cnt => cnd (riseB (srtT nts) && Nat.blt cnt 100000) (Tr.setP (path bt) (some (.cells ty m c ex sz)) .leaf fun ts =>
    loopPart P N keep fuel p bt n2 cnt (.mk ts n2 n2) fun x => loopPart P N keep fuel p bt n2 cnt (.mk ts n2 n2) fun y => cnd (sameR x y) (pre17 P keep p bt x cnt (
      writeL x.l 0 .leaf fun c1 => writeL (cellsT (srtT nts)) 0 .leaf fun c2 =>
        t2.setP (path ni) none fun t => t.setP (path bt) (some (.cells x.ty x.l.length c1 true x.sz)) fun t => t.setP (path x.bg) (some (.cells x.e3 (3 * cnt) c2 false 3)) fun t => natMin low2 bt fun low =>
          Tr.setP (path 4) (some (.ptr bt 0)) .leaf fun env5 => k env5 (.mk t x.n4 low))) (.no 305)) (.no 286)) = .yes := H10
  rw [lenK_eq] at H10
  generalize hcnt : (es.map (·.1)).length = cnt at H10
  obtain ⟨hr, H11⟩ := cnd_yes H10
  rw [Bool.and_eq_true] at hr
  rw [setP_eq] at H11
  obtain ⟨x, H12⟩ := loopPart_ex cy k4 k60 k63 H11
  obtain ⟨y, H13⟩ := loopPart_ex cy k4 k60 k63 H12
  obtain ⟨hxy, H14⟩ := cnd_yes H13
  have hK' := (pre17_yes cz k4 k60 H14).1
  have hK2 := hK'
  rw [writeL_eq, writeL_eq, setP_eq, setP_eq, setP_eq, natMin_eq, setP_eq] at hK2
  refine ⟨env5 bt, h6 t2 ni bt cnt (min low2 bt) x (srtT nts), hK2, fun t ht => ?_, fun ds β a w hrel hg Q hQ => ?_⟩
  · unfold env5
    rw [get_set, get_leaf]
    split
    · rename_i e; rw [path_inj e, k4] at ht; cases ht
    · rfl
  refine wp_seq (wp_mono (hw1 ds β a w hrel hg) fun ee a1 w1 hp => ?_)
  obtain ⟨rfl, β2, s1, r1⟩ := hp
  have hr0 : HR β2 (.mk t2 n2 low2) w1 := s1.hr
  have hg2 : GlobK P β2 := hg.le (s1.le hrel.hr)
  -- the blocks
  obtain ⟨hnin, ir, κi, hβi, cbm, κm', hβm', hiter⟩ := hr0.blk ni _ gni
  obtain ⟨hbmn, cbm2, κm, hβm, ms, hmap, hent⟩ := hr0.blk bm _ gbm
  obtain ⟨hbtn, cbt, κt, hβt, cst, fzt, hcst, hfzt, helt, hszt, hszt2, hszt3⟩ := hr0.blk bt _ gbt
  rw [hβm'] at hβm
  injection hβm with hβm
  injection hβm with e1 e2
  subst e1 e2
  have hbtn' : bt < n2 := hbtn
  have ne1 : cbm ≠ cbt := fun e => by
    have := hr0.inj bm bt _ _ cbm _ _ gbm gbt hβm' (by rw [e]; exact hβt); omega
  have ne2 : cbm ≠ ir := fun e => by
    have := hr0.inj bm ni _ _ cbm _ _ gbm gni hβm' (by rw [e]; exact hβi); omega
  have ne3 : ir ≠ cbt := fun e => by
    have := hr0.inj ni bt _ _ ir _ _ gni gbt hβi (by rw [e]; exact hβt); omega
  obtain ⟨hborn, hnod⟩ := borns_of hent hb2
  have hall := ntL_ents hent hnt
  have hcnt2 : cnt = ms.size := by rw [← hcnt, List.length_map, hent.len, Array.length_toList]
  subst hcnt2
  have hms : ms.size < 100000 := blt_of hr.2
  let βr : Bt := fun b => if b ≤ bt then β2 b else none
  have brlo : ∀ b, b ≤ bt → βr b = β2 b := fun b hb => if_pos hb
  have brhi : ∀ b, bt < b → βr b = none := fun b hb => if_neg (by omega)
  have cx : Cx P N keep p ms since cbm ir bt cbt n2 βr w1 := by
    refine ⟨cy.hm, cy.o14, cy.o15, cy.n, cy.dst15, k4, k60, k63, fun g hgl => ?_, brhi, ⟨κt, by rw [brlo bt (Nat.le_refl _)]; exact hβt⟩, hbtn', hmap, ne1, ne2, ne3, (Array.getElem?_eq_some_iff.1 hiter).1, hborn, hnod, fun m hm => ?_⟩
    · rw [brlo g (by omega)]; exact hg2 g hgl
    · obtain ⟨y, -, hy⟩ := hall.mem hm
      obtain ⟨b, c, e, -, -, f1, f2⟩ := hy.val
      exact ⟨hy.key, _, _, _, e, rfl, f1, f2⟩
  have t4 : a1.tmps.getD 4 undef = .pointer (some ⟨cbt, 0, none⟩) := by
    have := r1.env 4 _ g4
    simp only [con, hβt] at this
    injection this with this; exact this.symm
  have t60 : a1.tmps.getD 60 undef = .pointer (some ⟨ir, 0, none⟩) := by
    have := r1.env 60 _ g60
    simp only [con, hβi] at this
    injection this with this; exact this.symm
  have one : ∀ b y, (Tr.set (path bt) (some (.cells ty m c ex sz)) (.leaf : Tr Blk)).get (path b) = some y → b = bt ∧ y = .cells ty m c ex sz := fun b y hb => by
    rw [get_set] at hb
    split at hb
    · rename_i e; injection hb with hb; exact ⟨path_inj e, hb.symm⟩
    · rw [get_leaf] at hb; cases hb
  have li : LInv ms since cbm ir bt cbt n2 βr w1 N ds [] βr (.mk (Tr.set (path bt) (some (.cells ty m c ex sz)) .leaf) n2 n2) a1 w1 := by
    refine ⟨?_, fun b y hb => .inl (one b y hb).1, Nat.le_refl _, Nat.le_of_lt hbtn', fun b _ => rfl, fun b c' κ hb e => ?_, rfl, rfl, rfl, Nat.le_refl _, fun c _ _ _ => rfl, t4, t60, r1.size, r1.defers, ⟨since, Nat.le_refl _, hiter⟩, (fun e he => by cases he), .nil⟩
    · refine @HR.mk (sgOf ir []) βr _ w1 (fun b y hb => ?_) (fun b b' y y' c' κ κ' hb hb' _ _ => by rw [(one b y hb).1, (one b' y' hb').1]) (fun i hi => brhi i (Nat.lt_of_lt_of_le hbtn' hi)) (Nat.le_refl _)
      obtain ⟨rfl, rfl⟩ := one b y hb
      refine ⟨hbtn', cbt, κt, by rw [brlo _ (Nat.le_refl _)]; exact hβt, cst, fzt, hcst, hfzt, fun i hi => ?_, hszt, hszt2, hszt3⟩
      obtain ⟨av, u, g1, g2, g3, g4⟩ := helt i hi
      obtain ⟨av', h1, h2⟩ := hlow i (Nat.zero_le _) (by omega)
      rw [g1] at h1
      injection h1 with h1
      subst h1
      exact ⟨av, u, g1, g2, low_sg (s := sA) (s' := sgOf ir []) h2 (fun b' hb' y hy => by rw [brlo b' (by omega)]; exact hy) g3, g4⟩
    · rw [brhi b (by omega)] at e; cases e
  show (Code.block p.b2 (.loop p.loopC)).wp P _ a1 w1
  refine wp_block (wp_loop_rounds (ms.size + 1) (loop_ok cx hms ms.size 0 _ H12 (by omega) [] βr a1 w1 rfl li _ fun h' vs' β' a' w' hk hvs li' => ?_))
  obtain ⟨y', hy', hk'⟩ := @resK2_yes bt n2 (sgOf ir vs') _ _ _ hk
  obtain ⟨hxy', H15⟩ := cnd_yes hk'
  obtain rfl := sameR_eq hxy'
  show (Code.region p.i17 p.ops17 false).wp P Q a' w'
  refine mid_end sA cx cz (es := es) (hall.imp fun _ _ h => h.any) hr.1 hms hr0 brlo ⟨κi, hβi⟩ ⟨_, gni⟩ ⟨_, gbt⟩ c3' H15 li' hvs hy' fun a2 w2 hp => hQ a2 w2 (hp.trans hrel.hr s1)
end
end Go.Ev
namespace Go.Ev
open Go.RowKit
/-- What is known of a function that makes a tree. -/
structure TreeAt (P : Program) (f : Nat) : Prop where
  ex : ∃ fn p fs fc, P.funcs[f]? = some fn ∧ (fn.name == "runtime.NumGoroutine") = false ∧ fn.body = some p.code ∧ Cy P fn.ntmps (keepF fn) p ∧ Cz P fn.ntmps (keepF fn) p fs fc
variable [Sg] [Sl]
variable {P : Program}

theorem partsOf_code (p : NewParts) : partsOf p.code = some p := by
  obtain ⟨r0, a1, r3, l1, r12, rest, i13, i14, i15, i16, i17, b2, b3, o13, o14, o15, o16, o17⟩ := p
  simp [partsOf, NewParts.code, NewParts.loopC, seqOf, regOf, blkOf, loopOf, exitOf]
/-- Codes, one behind the other. -/
theorem chain_sound {callf : CallF} {N keep fuel : Nat} (hreg : RegOK P callf N keep) : ∀ (cs : List Code) (env : Tr AV) (h : Hp) (k : Kont), chainK P callf N keep fuel cs env h k = .yes → EnvK keep env →
    ∃ e env' h', k e env' h' = .yes ∧ EnvK keep env' ∧ ∀ (c0 : Code) ds β a w, Rel N ds β env h a w → GlobK P β → ∀ Q : Exit → Act → World → Prop,
      (∀ a' w', Post N ds β h w env' h' a' w' → Exit.then (c0.wp P Q) Q (exOf e) a' w') → (cs.foldr Code.seq c0).wp P Q a w
  | [], env, h, k, H, hK => ⟨.normal, env, h, H, hK, fun c0 ds β a w hr hg Q hQ => hQ a w ⟨β, .refl hr.hr, hr⟩⟩
  | c :: cs, env, h, k, H, hK => by
    replace H : run P callf N keep fuel (compC P N keep c) env h (fun e env h => onNormal e (chainK P callf N keep fuel cs env h k) (k e env h)) = .yes := H
    obtain ⟨e, env1, h1, H1, hK1, hw1⟩ := run_sound hreg fuel (.code c) env h _ H hK
    rcases onNormal_yes H1 with ⟨rfl, H2⟩ | ⟨hne, H2⟩
    · obtain ⟨e2, env2, h2, H3, hK2, hw2⟩ := chain_sound hreg cs env1 h1 k H2 hK1
      refine ⟨e2, env2, h2, H3, hK2, fun c0 ds β a w hr hg Q hQ => ?_⟩
      refine wp_seq (wp_mono (hw1 ds β a w hr hg) fun ee a' w' hp => ?_)
      obtain ⟨rfl, β1, s1, r1⟩ := hp
      exact hw2 c0 ds β1 a' w' r1 (hg.le (s1.le hr.hr)) Q fun a2 w2 hp2 => hQ a2 w2 (hp2.trans hr.hr s1)
    · refine ⟨e, env1, h1, H2, hK1, fun c0 ds β a w hr hg Q hQ => ?_⟩
      refine wp_seq (wp_mono (hw1 ds β a w hr hg) fun ee a' w' hp => ?_)
      obtain ⟨rfl, hp⟩ := hp
      have := hQ a' w' hp
      cases e with
      | normal => exact absurd rfl hne
      | exit i => exact this
      | goto l => exact this
      | ret => exact this
theorem treeK_sound {f : Nat} (ht : TreeAt P f) (hm : P.follows .mixedOrders = true) {fuel : Nat} {callf : CallF} (hcall : CallSound P callf) {xs : List AV} {h : Hp} {k : AV → Hp → Ans} (H : treeK P fuel callf f xs h k = .yes) :
    ∃ v h', k v h' = .yes ∧ FuncT P f xs h v h' := by
  obtain ⟨fn, p, fs, fc, hf, hn, hbody, cy, cz⟩ := ht.ex
  obtain ⟨t, n, low⟩ := h
  unfold treeK at H
  rw [hf] at H
  replace H : (Option.rec (motive := fun _ => Ans) (.no 298) (fun (p : NewParts) =>
      cnd (argsOk xs (keepF fn)) (initEnv xs fun env => chainK P callf fn.ntmps (keepF fn) fuel [p.r0, p.a1, p.r3, p.l1, p.r12] env (.mk t n n) fun e env h1 =>
        onNormal e (midK P fn.ntmps (keepF fn) fuel p env h1 fun env h2 => run P callf fn.ntmps (keepF fn) fuel (compC P fn.ntmps (keepF fn) p.rest) env h2 fun e env h' => match e, h' with
        | .exit _, _ => .no 172
        | .goto _, _ => .no 173
        | _, .mk t' n' low' => resK P fn.results.toList env h' fun v => natMin low low' fun low'' => k v (.mk t' n' low'')) ((fun (e : Ex) (env : Tr AV) (h' : Hp) => (match e, h' with
        | .exit _, _ => .no 172
        | .goto _, _ => .no 173
        | _, .mk t' n' low' => resK P fn.results.toList env h' fun v => natMin low low' fun low'' => k v (.mk t' n' low'') : Ans)) e env h1)) (.no 174)) (fn.body.bind partsOf) : Ans) = .yes := H
  rw [hbody, Option.bind_some, partsOf_code] at H
  obtain ⟨hargs, H⟩ := cnd_yes H
  unfold initEnv at H
  rw [writeL_eq] at H
  have hK : EnvK (keepF fn) (putL xs 0 .leaf) := by
    intro i hi
    rw [get_putL]
    split
    · rename_i hb2
      have := argsOk_yes hargs i (by omega)
      rw [Nat.zero_add, hi] at this; cases this
    · exact get_leaf _
  obtain ⟨e, env1, h1, H1, hK1, hw1⟩ := chain_sound (regOK hm callf hcall fn.ntmps (keepF fn)) _ _ _ _ H hK
  -- the end
  have fin : ∃ e2 env2 h2, (e2 = .normal ∨ e2 = .ret) ∧ (∃ t' n' low', h2 = .mk t' n' low' ∧ (resK P fn.results.toList env2 h2 fun v => natMin low low' fun low'' => k v (.mk t' n' low'')) = .yes) ∧
      ∀ β a w, Rel fn.ntmps [] β (putL xs 0 .leaf) (.mk t n n) a w → GlobK P β → p.code.wp P (fun ex a' w' => ex = exOf e2 ∧ Post fn.ntmps [] β (.mk t n n) w env2 h2 a' w') a w := by
    have hend : ∀ {e2 : Ex} {env2 : Tr AV} {h2 : Hp}, (match e2, h2 with
        | .exit _, _ => (.no 172 : Ans)
        | .goto _, _ => .no 173
        | _, .mk t' n' low' => resK P fn.results.toList env2 h2 fun v => natMin low low' fun low'' => k v (.mk t' n' low'')) = .yes → (e2 = .normal ∨ e2 = .ret) ∧ (∃ t' n' low', h2 = .mk t' n' low' ∧ (resK P fn.results.toList env2 h2 fun v => natMin low low' fun low'' => k v (.mk t' n' low'')) = .yes) := by
      intro e2 env2 h2 he
      obtain ⟨t', n', low'⟩ := h2
      cases e2 with
      | normal => exact ⟨.inl rfl, t', n', low', rfl, he⟩
      | ret => exact ⟨.inr rfl, t', n', low', rfl, he⟩
      | exit i => cases he
      | goto l => cases he
    rcases onNormal_yes H1 with ⟨rfl, H2⟩ | ⟨hne, H2⟩
    · obtain ⟨env2, h2, H3, hK2, hw2⟩ := midK_sound cy cz H2 hK1
      obtain ⟨e3, env3, h3, H4, hK3, hw3⟩ := run_sound (regOK hm callf hcall fn.ntmps (keepF fn)) fuel (.code p.rest) _ _ _ H3 hK2
      obtain ⟨g1, g2⟩ := hend H4
      refine ⟨e3, env3, h3, g1, g2, fun β a w hr hg => ?_⟩
      refine hw1 (.seq (.seq (.region p.i13 p.ops13 false) (.block p.b2 (.loop p.loopC))) (.seq (.region p.i17 p.ops17 false) p.rest)) [] β a w hr hg _ fun a1 w1 hp => ?_
      obtain ⟨β1, s1, r1⟩ := hp
      have hg1 := hg.le (s1.le hr.hr)
      show (Code.seq _ _).wp P _ a1 w1
      refine wp_seq (wp_mono (hw2 [] β1 a1 w1 r1 hg1 (Exit.then (p.rest.wp P fun ex a' w' => ex = exOf e3 ∧ Post fn.ntmps [] β (.mk t n n) w env3 h3 a' w') (fun ex a' w' => ex = exOf e3 ∧ Post fn.ntmps [] β (.mk t n n) w env3 h3 a' w')) fun a2 w2 hp2 => ?_) fun ee a2 w2 he => ?_)
      · obtain ⟨β2, s2, r2⟩ := hp2
        show p.rest.wp P _ a2 w2
        refine wp_mono (hw3 [] β2 a2 w2 r2 (hg1.le (s2.le r1.hr))) fun ex a3 w3 hp3 => ?_
        exact ⟨hp3.1, (hp3.2.trans r1.hr s2).trans hr.hr s1⟩
      · cases ee with
        | normal => exact wp_seq he
        | exit i => exact he
        | goto l => exact he
        | ret => exact he
        | panic c => exact he
        | outgrown => exact he
    · obtain ⟨g1, g2⟩ := hend H2
      refine ⟨e, env1, h1, g1, g2, fun β a w hr hg => ?_⟩
      refine hw1 (.seq (.seq (.region p.i13 p.ops13 false) (.block p.b2 (.loop p.loopC))) (.seq (.region p.i17 p.ops17 false) p.rest)) [] β a w hr hg _ fun a1 w1 hp => ?_
      cases e with
      | normal => exact absurd rfl hne
      | exit i => exact ⟨rfl, hp⟩
      | goto l => exact ⟨rfl, hp⟩
      | ret => exact ⟨rfl, hp⟩
  obtain ⟨e2, env2, h2, he, ⟨t', n', low', rfl, H5⟩, hw⟩ := fin
  obtain ⟨v, H6, hv⟩ := resK_yes H5
  rw [natMin_eq] at H6
  refine ⟨v, _, H6, fun β w vs hr hg hx => .inl ⟨?_, ?_⟩⟩
  · unfold callFunc
    simp only [Sem.run_bind, run_program, Result.andThen_ok, hf]
    rw [hn]
    simp [hbody]
  · refine calls_of_wp hf hbody ?_
    have hr2 : HR β (.mk t n n) w := ⟨hr.blk, hr.inj, hr.fresh, Nat.le_refl _⟩
    have hlen := conL_len hx
    have hrel : Rel fn.ntmps [] β (putL xs 0 .leaf) (.mk t n n) { tmps := vs.toArray ++ Array.replicate (fn.ntmps - vs.toArray.size) undef, defers := [] } w := by
      refine ⟨hr2, fun i av hi => ?_, by simp; omega, rfl⟩
      rw [get_putL] at hi
      split at hi
      · rename_i hb2
        obtain ⟨u, u1, u2⟩ := conL_get hx hi
        rw [Nat.sub_zero] at u1
        rw [u2]
        congr 1
        have hi2 : i < vs.length := by omega
        simp [Array.getD, hi2]
        rw [if_pos (by omega)]
        rw [List.getElem?_eq_getElem hi2] at u1
        injection u1 with u1
        exact u1.symm
      · rw [get_leaf] at hi; cases hi
    refine wp_mono (hw β _ w hrel hg) fun ex a' w' hp => ?_
    obtain ⟨rfl, β', s1, r1⟩ := hp
    obtain ⟨u, g1, g2⟩ := hv fn.ntmps [] β' a' w' r1
    have s2 : Stp β (.mk t n low) w β' (.mk t' n' (min low low')) w' := by
      refine ⟨⟨s1.hr.blk, s1.hr.inj, s1.hr.fresh, ?_⟩, s1.nx, Nat.min_le_left _ _, s1.old, s1.dom, fun b c κ hb e => ?_, ⟨s1.kept.os, s1.kept.tape, s1.kept.output, s1.kept.size, fun c hc hne => ?_⟩⟩
      · have := s1.hr.low
        exact Nat.le_trans (Nat.min_le_right _ _) this
      · rcases s1.new b c κ hb e with h5 | ⟨x, κ', y, a1, a2, a3⟩
        · exact .inl h5
        · exact .inr ⟨x, κ', y, Nat.le_trans (Nat.min_le_right _ _) a1, a2, a3⟩
      · exact s1.kept.blocks c hc fun b κ x hb hx => hne b κ x (Nat.le_trans (Nat.min_le_right _ _) hb) hx
    rcases he with rfl | rfl
    · exact ⟨r1.defers, u, g1, β', u, rfl, s2, g2⟩
    · exact ⟨r1.defers, u, g1, β', u, rfl, s2, g2⟩
end Go.Ev
