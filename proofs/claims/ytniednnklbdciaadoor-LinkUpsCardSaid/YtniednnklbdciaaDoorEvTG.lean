/- The evaluator: the sort, and what it leaves. -/
import Derived.Test.YtniednnklbdciaaDoorEvTF
set_option linter.unusedVariables false
set_option linter.unusedSectionVars false
set_option linter.unusedSimpArgs false
namespace Go.Ev
open Go.RowKit
variable {P : Program}

theorem perm_of_sub {α : Type} : ∀ {l m : List α}, l.Nodup → (∀ x ∈ l, x ∈ m) → m.length ≤ l.length → l.Perm m
  | [], m, _, _, h => by
    have : m = [] := List.eq_nil_of_length_eq_zero (by simpa using h)
    rw [this]
  | a :: l, m, hn, hs, h => by
    obtain ⟨s, t, rfl⟩ := List.append_of_mem (hs a (List.mem_cons_self ..))
    have hn' := List.nodup_cons.1 hn
    have hp : l.Perm (s ++ t) := perm_of_sub hn'.2 (fun x hx => by
      have h1 := hs x (List.mem_cons_of_mem _ hx)
      have h2 : x ≠ a := fun e => hn'.1 (e ▸ hx)
      rw [List.mem_append] at h1 ⊢
      rcases h1 with h1 | h1
      · exact .inl h1
      · rcases List.mem_cons.1 h1 with h1 | h1
        · exact absurd h1 h2
        · exact .inr h1) (by simp at h ⊢; omega)
    exact (hp.cons a).trans List.perm_middle.symm
theorem nodup_of_map {α β : Type} (f : α → β) : ∀ {l : List α}, (l.map f).Nodup → l.Nodup
  | [], _ => .nil
  | a :: l, h => by
    rw [List.map_cons, List.nodup_cons] at h
    exact List.nodup_cons.2 ⟨fun hm => h.1 (List.mem_map.2 ⟨a, hm, rfl⟩), nodup_of_map f h.2⟩
theorem cellsT_get : ∀ {l : List NT} {q : Nat} {y : NT}, l[q]? = some y → (cellsT l)[3 * q]? = some y.a ∧ (cellsT l)[3 * q + 1]? = some y.b ∧ (cellsT l)[3 * q + 2]? = some y.c
  | [], q, y, h => by simp at h
  | z :: l, 0, y, h => by injection h with h; subst h; exact ⟨rfl, rfl, rfl⟩
  | z :: l, q + 1, y, h => by
    have ih := cellsT_get (l := l) (q := q) (y := y) h
    rw [show 3 * (q + 1) = 3 * q + 3 by omega, show 3 * q + 3 + 1 = 3 * q + 1 + 3 by omega, show 3 * q + 3 + 2 = 3 * q + 2 + 3 by omega]
    exact ih
theorem cellsT_len : ∀ l : List NT, (cellsT l).length = 3 * l.length
  | [] => rfl
  | z :: l => by
    show (z.cells ++ cellsT l).length = _
    rw [List.length_append, cellsT_len l]
    simp [NT.cells]; omega
theorem exec_callf {o : Oper} {fs : Nat} {args : Array Operand} {ats : Array TypeId} (ho : o.op = .call ⟨.value (.func fs), args, ats⟩) (a : Act) (w : World) : (execOp a.eval o).run P w = (callFunc fs (args.toList.map a.eval).toArray).run P w := by
  have : execOp a.eval o = (do let d ← Go.resolve a.eval ⟨.value (.func fs), args, ats⟩ o.type; invoke d.target d.args) := by
    unfold execOp; rw [ho]
  rw [this]
  unfold Go.resolve Deferred.ofValue invoke
  have : a.eval (.func fs) = .func (.func fs) #[] #[] := rfl
  simp only [this, Sem.run_bind, Sem.run_pure, Result.andThen_ok]
  congr 2
  apply Array.ext'
  simp
theorem All2.getl {α β : Type} {R : α → β → Prop} {l : List α} {m : List β} (h : All2 R l m) : ∀ {i : Nat} {a : α}, l[i]? = some a → ∃ b, m[i]? = some b ∧ R a b := by
  induction h with
  | nil => intro i b h; simp at h
  | cons hr h ih =>
    intro i b hb
    cases i with
    | zero => injection hb with hb; subst hb; exact ⟨_, rfl, hr⟩
    | succ i => exact ih hb
theorem getD_put_ne' {a : Act} {d : Option Tmp} {t : Nat} {u : Value} (h : d ≠ some t) : (a.put d u).tmps.getD t undef = a.tmps.getD t undef := by
  cases d with
  | none => rfl
  | some d => exact getD_put_ne (fun e => h (by rw [e]))
/-- The rows of the nodes. -/
noncomputable def rowOf (s : Sg) (x : NT) : Row3 := (x.p, (@con s (fun _ => none) x.b).getD (.agg #[]), (@con s (fun _ => none) x.c).getD (.agg #[]))
theorem rowOf_of {s : Sg} {β : Bt} {x : NT} {m : MapEntry} (h : @NtR s β x m) : m.val = .agg #[.string (bytesOf x.p), (rowOf s x).2.1, (rowOf s x).2.2] ∧ flatV (rowOf s x).2.1 = true ∧ flatV (rowOf s x).2.2 = true ∧
    (∀ β', @con s β' x.a = some (.string (bytesOf x.p)) ∧ @con s β' x.b = some (rowOf s x).2.1 ∧ @con s β' x.c = some (rowOf s x).2.2) := by
  obtain ⟨b, c, e, hb, hc, f1, f2⟩ := @NtR.val s β x m h
  have hb' : ∀ β', @con s β' x.b = some b := fun β' => by rw [← flat1_sg (s := s) (s' := s) (@NtR.fb s β x m h) β β']; exact hb
  have hc' : ∀ β', @con s β' x.c = some c := fun β' => by rw [← flat1_sg (s := s) (s' := s) (@NtR.fc s β x m h) β β']; exact hc
  have e1 : (rowOf s x).2.1 = b := by unfold rowOf; dsimp only; rw [hb']; rfl
  have e2 : (rowOf s x).2.2 = c := by unfold rowOf; dsimp only; rw [hc']; rfl
  rw [e1, e2]
  refine ⟨e, f1, f2, fun β' => ⟨?_, hb' β', hc' β'⟩⟩
  obtain ⟨n, ea, ha⟩ := @NtR.a s β x m h
  rw [ea] at ha ⊢
  simpa only [con] using ha
section
variable {N keep fuel : Nat} {p : NewParts} {ms : Array MapEntry} {clock cbm ir bt cbt n2 : Nat} {β0 : Bt} {w0 : World} {ds : List Deferred} {vs : List MapEntry} {β : Bt} {h : Hp} {a : Act} {w : World} {x : Res} {fs fc : Nat}
noncomputable def env5 (bt : Nat) : Tr AV := Tr.set (path 4) (some (.ptr bt 0)) .leaf
noncomputable def h6 (t2 : Tr Blk) (ni bt cnt lo : Nat) (x : Res) (l : List NT) : Hp :=
  .mk (((t2.set (path ni) none).set (path bt) (some (.cells x.ty x.l.length (putL x.l 0 .leaf) true x.sz))).set (path x.bg) (some (.cells x.e3 (3 * cnt) (putL (cellsT l) 0 .leaf) false 3))) x.n4 lo
/-- The sort, and what it leaves. -/
theorem mid_end (sA : Sg) [Sl] (cx : Cx P N keep p ms clock cbm ir bt cbt n2 β0 w0) (cz : Cz P N keep p fs fc) {es : List (AV × AV × Nat)} {nts : List NT} (hent : All2 (@NtR sA β0) nts ms.toList) (hrise : riseB (srtT nts) = true) (hms : ms.size < 100000)
    {t2 : Tr Blk} {low2 ni : Nat} {β2 : Bt} (hr0 : @HR sA β2 (.mk t2 n2 low2) w0) (hβ : ∀ b, b ≤ bt → β0 b = β2 b) (hni : ∃ κ, β2 ni = some (ir, κ)) (hnit : ∃ y, t2.get (path ni) = some y) (hbtt : ∃ y, t2.get (path bt) = some y) (hbtni : bt < ni) {K : Ans} (hp : pre17 P keep p bt x ms.size K = .yes)
    (li : LInv ms clock cbm ir bt cbt n2 β0 w0 N ds vs β h a w) (hvs : vs.length = ms.size) (hx : IsRes n2 bt ms.size h x) {Q : Exit → Act → World → Prop}
    (hQ : ∀ a' w', @Post sA N ds β2 (.mk t2 n2 low2) w0 (env5 bt) (h6 t2 ni bt ms.size (min low2 bt) x (srtT nts)) a' w' → Q .normal a' w') : (Code.region p.i17 p.ops17 false).wp P Q a w := by
  obtain ⟨ct, hct, hctl⟩ := hx.tree
  obtain ⟨cg, hcg, hcgl⟩ := hx.bg
  have hlt := hx.lt
  have hge := hx.ge
  have hbtn2 := cx.lt
  have hnx := hx.nx
  obtain ⟨κ0, hbt0⟩ := cx.at_
  -- the blocks of the tree and of the slice
  obtain ⟨-, cb1, κ1, hb1, Bt1⟩ := @HR.blk (sgOf ir vs) β h w li.hr bt _ hct
  have hbt1 : β bt = some (cbt, κ0) := by rw [li.old bt hbtn2, hbt0]
  rw [hbt1] at hb1
  injection hb1 with hb1
  injection hb1 with hb1 hb2
  subst hb1 hb2
  obtain ⟨-, cbg, κg, hbg, Bg1⟩ := @HR.blk (sgOf ir vs) β h w li.hr x.bg _ hcg
  obtain ⟨cs, fz, hcs, hfz, hel, hsz1, -, hsz2⟩ := Bg1
  obtain ⟨ct1, fzt, hct1, hfzt, helt, hszt, hszt2, -⟩ := Bt1
  have hsz3 : cs.size = κg * 3 := hsz2 rfl
  have hcntκ : ms.size ≤ κg := by omega
  have hcbgw : cbg < w.heap.size := (Array.getElem?_eq_some_iff.1 hcs).1
  have hcbtw : cbt < w.heap.size := (Array.getElem?_eq_some_iff.1 hct1).1
  have hne : cbg ≠ cbt := fun e => by
    have := @HR.inj (sgOf ir vs) β h w li.hr x.bg bt _ _ cbg κg κ0 hcg hct hbg (by rw [e]; exact hbt1)
    omega
  have hnew : w0.heap.size ≤ cbg := by
    rcases li.new x.bg cbg κg hge hbg with h1 | h1
    · exact h1
    · exact absurd h1 hne
  have hglob : GlobK P β := fun g hgl => by
    obtain ⟨κ, e⟩ := cx.glob g hgl
    have : g < n2 := by
      rcases Nat.lt_or_ge bt g with h | h
      · rw [cx.gt g h] at e; cases e
      · omega
    exact ⟨κ, by rw [li.old g this]; exact e⟩
  -- the nodes in the order in which they were met
  have hperm : vs.Perm ms.toList := perm_of_sub (nodup_of_map _ li.nod) li.sub (by rw [hvs]; simp)
  obtain ⟨nts', hnp, hall⟩ := hent.perm hperm.symm
  have hnl : nts'.length = ms.size := by rw [hall.len, hvs]
  have hsl : (srtT nts).length = ms.size := by rw [(srtT_perm nts).length_eq, ← hnp.length_eq, hnl]
  have hr17 : @HR (sgOf ir vs) β (h17 bt x) w := by
    refine @HR.mk (sgOf ir vs) β (h17 bt x) w (fun b y hb => ?_) (fun b b' y y' c κ κ' hb hb' _ _ => ?_) (fun i hi => @HR.fresh (sgOf ir vs) β h w li.hr i (by rw [← hnx]; exact hi)) (Nat.le_refl _)
    · unfold h17 at hb
      replace hb : (Tr.set (path bt) (some (.cells x.ty x.l.length (putL x.l 0 .leaf) true x.sz)) .leaf).get (path b) = some y := hb
      rw [get_set] at hb
      split at hb
      · rename_i e
        have e' := path_inj e
        injection hb with hb
        subst hb
        refine ⟨show b < x.n4 by omega, cbt, κ0, by rw [e']; exact hbt1, ct1, fzt, hct1, hfzt, fun i hi => ?_, hszt, hszt2, fun e => by cases e⟩
        obtain ⟨av, u, g1, g2, g3, g4⟩ := helt i hi
        have hi' := List.getElem?_eq_getElem hi
        refine ⟨x.l[i], u, ?_, g2, ?_, g4⟩
        · rw [get_putL, if_pos (by omega), Nat.sub_zero, hi']
        · have := (hctl i _ hi').1
          rw [g1] at this
          injection this with this
          rw [← this]; exact g3
      · rw [get_leaf] at hb; cases hb
    · have one : ∀ b y, (h17 bt x).tr.get (path b) = some y → b = bt := fun b y hb => by
        replace hb : (Tr.set (path bt) (some (.cells x.ty x.l.length (putL x.l 0 .leaf) true x.sz)) .leaf).get (path b) = some y := hb
        rw [get_set] at hb
        split at hb
        · rename_i e; exact path_inj e
        · rw [get_leaf] at hb; cases hb
      rw [one b y hb, one b' y' hb']
  have hcv : @CvR (sgOf ir vs) β (fun t => (envS bt).get (path t)) a.tmps := fun t av ht => by
    rcases envS_get ht with ⟨rfl, rfl⟩ | ⟨rfl, rfl⟩
    · rw [li.t4]; simp only [con, hbt1]; rfl
    · rw [li.t60]; exact sgOf_it ir _ β
  obtain ⟨o, args, ats, hops, ho, hargs, hgd, hdst⟩ := cz.o17
  obtain ⟨hK, hw⟩ := @pre17_yes P N keep p bt ms.size x fs fc (sgOf ir vs) _ cz cx.k4 cx.k60 K hp
  replace hw := hw hlt (by omega)
  have key : wpList P p.ops17 Q (p.ops17.toList.dropLast ++ [o]) a w := by
    refine wpList_cut (hw ds β a w hr17 hcv li.sz li.dfr hglob _ fun a' w' c78 c4 hN hd o1 o2 o3 o4 o5 => ?_)
    show if _ then _ else _
    rw [if_pos (wanted_none hgd _ _)]
    left
    unfold Oper.wp
    have v78 : a'.tmps.getD 78 undef = .slice (some ⟨cbg, 0, none⟩) (nts'.map (rowOf sA)).length κg := by
      simp only [con, hbg] at c78
      rw [Option.bind_some, if_pos (.inr (by omega))] at c78
      injection c78 with c78
      rw [← c78, List.length_map, hnl]
      rfl
    have v4 : a'.tmps.getD 4 undef = .pointer (some ⟨cbt, 0, none⟩) := by
      simp only [con, hbt1] at c4
      injection c4 with c4
      exact c4.symm
    have hrun : (execOp a'.eval o).run P w' = (callFunc fs #[.slice (some ⟨cbg, 0, none⟩) (nts'.map (rowOf sA)).length κg, .func (.func fc) #[] #[]]).run P w' := by
      rw [exec_callf ho, hargs]
      show (callFunc fs #[a'.tmps.getD 78 undef, .func (.func fc) #[] #[]]).run P w' = _
      rw [v78]
    rw [hrun]
    have hA : ∀ r ∈ nts'.map (rowOf sA), r.1.all (· < 256) = true ∧ flatV r.2.1 = true ∧ flatV r.2.2 = true := by
      intro r hr
      obtain ⟨y, hy, rfl⟩ := List.mem_map.1 hr
      obtain ⟨i, hi⟩ := List.mem_iff_getElem?.1 hy
      obtain ⟨m, -, hm⟩ := hall.getl hi
      obtain ⟨-, f1, f2, -⟩ := rowOf_of hm
      exact ⟨@NtR.all sA β0 y m hm, f1, f2⟩
    have hB : ∀ q r, (nts'.map (rowOf sA))[q]? = some r → cs[3 * q]? = some (.string (bytesOf r.1)) ∧ cs[3 * q + 1]? = some r.2.1 ∧ cs[3 * q + 2]? = some r.2.2 := by
      intro q r hr
      rw [List.getElem?_map, Option.map_eq_some_iff] at hr
      obtain ⟨y, hy, rfl⟩ := hr
      obtain ⟨m, hm1, hm⟩ := hall.getl hy
      obtain ⟨ev, f1, f2, -⟩ := rowOf_of hm
      have hq : q < ms.size := by
        have := (List.getElem?_eq_some_iff.1 hm1).1
        omega
      obtain ⟨c1, c2, c3⟩ := hcgl q hq
      have hcl : m.key :: m.val.cells.toList = [m.key, .string (bytesOf y.p), (rowOf sA y).2.1, (rowOf sA y).2.2] := by rw [ev]; rfl
      have cell : ∀ (j : Nat) (v : Value), j < 3 → [m.key, .string (bytesOf y.p), (rowOf sA y).2.1, (rowOf sA y).2.2][j + 1]? = some v → flatV v = true → cg.get (path (3 * q + j)) = some (.sym (4 * q + (j + 1))) → cs[3 * q + j]? = some v := by
        intro j v hj hv hfv hg
        obtain ⟨av, u, g1, g2, g3, g4⟩ := hel (3 * q + j) (by omega)
        rw [hg] at g1
        injection g1 with g1
        subst g1
        rw [sgOf_at ir (q := j + 1) hm1 (by omega) (by omega) (by rw [hcl]; exact hv) hfv β] at g3
        injection g3 with g3
        rw [g2, g3]
      exact ⟨cell 0 _ (by omega) rfl rfl c1, cell 1 _ (by omega) rfl f1 c2, cell 2 _ (by omega) rfl f2 c3⟩
    obtain ⟨hs1, hs2⟩ := cz.sort w' cbg κg (nts'.map (rowOf sA)) cs x.e3 fz (by rw [o5 _ hcbgw]; exact hcs) hfz (by rw [List.length_map, hnl]; exact hms) (by rw [List.length_map, hnl]; exact hcntκ) hsz3 hA hB
    · rw [hs1]
      refine hs2.mono fun e w2 he => ?_
      obtain ⟨rfl, d', cs', hdp, hds, q1, q2, q3, q4, q5, q6, q7, q8⟩ := he
      show Q .normal (a'.put o.dst (.tuple #[])) w2
      have hd' : d' = (srtT nts).map (rowOf sA) := rows_eq (fun _ => rfl) hrise (hdp.trans (hnp.map (rowOf sA))) hds
      -- the numbers of the blocks
      let β6 : Bt := fun b => if b < n2 then β2 b else β b
      have b6lo : ∀ b, b < n2 → β6 b = β2 b := fun b hb => if_pos hb
      have b6hi : ∀ b, n2 ≤ b → β6 b = β b := fun b hb => if_neg (by omega)
      have hfr : ∀ i, n2 ≤ i → β2 i = none := fun i hi => @HR.fresh sA β2 _ w0 hr0 i hi
      have hle : Le β2 β6 := fun b y hb => by
        rcases Nat.lt_or_ge b n2 with h1 | h1
        · rw [b6lo b h1]; exact hb
        · rw [hfr b h1] at hb; cases hb
      have hbt2 : β2 bt = some (cbt, κ0) := by rw [← hβ bt (Nat.le_refl _), hbt0]
      have hbg6 : β6 x.bg = some (cbg, κg) := by rw [b6hi _ hge]; exact hbg
      have hbt6 : β6 bt = some (cbt, κ0) := by rw [b6lo _ hbtn2]; exact hbt2
      have low6 : ∀ b, b < n2 → ∀ y, β b = some y → β6 b = some y := fun b hb y hy => by
        rw [li.old b hb] at hy
        rw [b6lo b hb]
        rcases Nat.lt_or_ge bt b with h1 | h1
        · rw [cx.gt b h1] at hy; cases hy
        · rw [← hβ b h1]; exact hy
      -- what lies where it lay
      have hkeep : ∀ c, c < w0.heap.size → c ≠ cbt → c ≠ ir → w2.heap[c]? = w0.heap[c]? := fun c h1 h2 h3 => by
        have hcw : c < w.heap.size := Nat.lt_of_lt_of_le h1 li.size
        rw [q5 c (Nat.lt_of_lt_of_le hcw o4) (by omega), o5 c hcw, li.block c h1 h2 h3]
      have hct2 : w2.heap[cbt]? = w.heap[cbt]? := by rw [q5 cbt (Nat.lt_of_lt_of_le hcbtw o4) (fun e => hne e.symm), o5 cbt hcbtw]
      have h6get : ∀ b y, (h6 t2 ni bt ms.size (min low2 bt) x (srtT nts)).tr.get (path b) = some y → (b = x.bg ∧ y = .cells x.e3 (3 * ms.size) (putL (cellsT (srtT nts)) 0 .leaf) false 3) ∨ (b = bt ∧ y = .cells x.ty x.l.length (putL x.l 0 .leaf) true x.sz) ∨ (b ≠ bt ∧ b ≠ ni ∧ t2.get (path b) = some y) := fun b y hb => by
        replace hb : (((t2.set (path ni) none).set (path bt) (some (.cells x.ty x.l.length (putL x.l 0 .leaf) true x.sz))).set (path x.bg) (some (.cells x.e3 (3 * ms.size) (putL (cellsT (srtT nts)) 0 .leaf) false 3))).get (path b) = some y := hb
        rw [get_set, get_set, get_set] at hb
        split at hb
        · rename_i e; injection hb with hb; exact .inl ⟨path_inj e, hb.symm⟩
        · split at hb
          · rename_i e; injection hb with hb; exact .inr (.inl ⟨path_inj e, hb.symm⟩)
          · rename_i e
            split at hb
            · cases hb
            · rename_i e2; exact .inr (.inr ⟨fun h => e (by rw [h]), fun h => e2 (by rw [h]), hb⟩)
      obtain ⟨yn, hyn⟩ := hnit
      obtain ⟨κn, hκn⟩ := hni
      obtain ⟨yb, hyb⟩ := hbtt
      have oldb : ∀ b y, b ≠ bt → b ≠ ni → t2.get (path b) = some y → b < n2 ∧ ∃ c κ, β2 b = some (c, κ) ∧ c < w0.heap.size ∧ c ≠ cbt ∧ c ≠ ir ∧ @BlkR sA β2 κ w0.heap[c]? y := fun b y e1 e2 hb => by
        obtain ⟨r1, c, κ, r2, r3⟩ := @HR.blk sA β2 _ w0 hr0 b y hb
        refine ⟨r1, c, κ, r2, ?_, fun e => e1 (@HR.inj sA β2 _ w0 hr0 b bt y yb c κ κ0 hb hyb r2 (by rw [e]; exact hbt2)), fun e => e2 (@HR.inj sA β2 _ w0 hr0 b ni y yn c κ κn hb hyn r2 (by rw [e]; exact hκn)), r3⟩
        cases y with
        | cells e' len c ex esz => obtain ⟨cs, fz, e2, -⟩ := r3; exact (Array.getElem?_eq_some_iff.1 e2).1
        | map es clock => obtain ⟨ms, e2, -⟩ := r3; exact (Array.getElem?_eq_some_iff.1 e2).1
        | iter l p => exact (Array.getElem?_eq_some_iff.1 r3.1).1
        | miter b s => obtain ⟨_, _, _, e2⟩ := r3; exact (Array.getElem?_eq_some_iff.1 e2).1
      have hrF : @HR sA β6 (h6 t2 ni bt ms.size (min low2 bt) x (srtT nts)) w2 := by
        refine @HR.mk sA β6 _ w2 (fun b y hb => ?_) (fun b b' y y' c κ κ' hb hb' hc hc' => ?_) (fun i hi => ?_) ?_
        · rcases h6get b y hb with ⟨rfl, rfl⟩ | ⟨rfl, rfl⟩ | ⟨n1, n2', n3⟩
          · refine ⟨hlt, cbg, κg, hbg6, cs', fz, q6, fun i hi => hfz i (by omega), fun i hi => ?_, by omega, fun e => (by cases e), fun _ => by omega⟩
            have hq : i / 3 < (srtT nts).length := by omega
            obtain ⟨y, hy⟩ : ∃ y, (srtT nts)[i / 3]? = some y := ⟨_, List.getElem?_eq_getElem hq⟩
            have hyn := (srtT_perm nts).mem_iff.1 (List.mem_of_getElem? hy)
            obtain ⟨j, hj⟩ := List.mem_iff_getElem?.1 hyn
            obtain ⟨m, -, hm⟩ := hent.getl hj
            obtain ⟨-, f1, f2, hcn⟩ := rowOf_of hm
            obtain ⟨k1, k2, k3⟩ := hcn β6
            obtain ⟨p1, p2, p3⟩ := cellsT_get hy
            obtain ⟨r1, r2, r3⟩ := q8 (i / 3) (rowOf sA y) (by rw [hd', List.getElem?_map, hy]; rfl)
            have hcl := cellsT_len (srtT nts)
            have hi3 : i = 3 * (i / 3) ∨ i = 3 * (i / 3) + 1 ∨ i = 3 * (i / 3) + 2 := by omega
            have hget : (putL (cellsT (srtT nts)) 0 .leaf).get (path i) = (cellsT (srtT nts))[i]? := by
              rw [get_putL, if_pos (by omega), Nat.sub_zero]
            rw [hget]
            rcases hi3 with e | e | e
            · rw [e]; exact ⟨_, _, p1, r1, k1, rfl⟩
            · rw [e]; exact ⟨_, _, p2, r2, k2, f1⟩
            · rw [e]; exact ⟨_, _, p3, r3, k3, f2⟩
          · refine ⟨show b < x.n4 by omega, cbt, κ0, hbt6, ct1, fzt, by rw [hct2]; exact hct1, hfzt, fun i hi => ?_, hszt, hszt2, fun e => by cases e⟩
            obtain ⟨av, u, g1, g2, g3, g4⟩ := helt i hi
            have hi' := List.getElem?_eq_getElem hi
            refine ⟨x.l[i], u, ?_, g2, ?_, g4⟩
            · rw [get_putL, if_pos (by omega), Nat.sub_zero, hi']
            · obtain ⟨c1, c2⟩ := hctl i _ hi'
              rw [g1] at c1
              injection c1 with c1
              rw [c1] at g3
              rcases c2 with c2 | c2
              · subst c2
                have hsl2 := hx.slice _ hi'
                rw [hsl2] at g3 ⊢
                simp only [con, hbg] at g3
                simp only [con, hbg6]
                exact g3
              · exact low_sg (s := sgOf ir vs) (s' := sA) c2 low6 g3
          · obtain ⟨r1, c, κ, r2, r3, r4, r5, r6⟩ := oldb b y n1 n2' n3
            refine ⟨show b < x.n4 by omega, c, κ, hle _ _ r2, ?_⟩
            rw [hkeep c r3 r4 r5]
            exact @BlkR.mono sA β2 β6 hle _ _ _ r6
        · have cls : ∀ b y, (h6 t2 ni bt ms.size (min low2 bt) x (srtT nts)).tr.get (path b) = some y → ∀ c κ, β6 b = some (c, κ) → (b = x.bg ∧ c = cbg) ∨ (b = bt ∧ c = cbt) ∨ (c < w0.heap.size ∧ c ≠ cbt ∧ β2 b = some (c, κ) ∧ t2.get (path b) = some y) := fun b y hb c κ hc => by
            rcases h6get b y hb with ⟨rfl, rfl⟩ | ⟨rfl, rfl⟩ | ⟨n1, n2', n3⟩
            · rw [hbg6] at hc; injection hc with hc; injection hc with hc _; exact .inl ⟨rfl, hc.symm⟩
            · rw [hbt6] at hc; injection hc with hc; injection hc with hc _; exact .inr (.inl ⟨rfl, hc.symm⟩)
            · obtain ⟨r1, c', κ', r2, r3, r4, r5, r6⟩ := oldb b y n1 n2' n3
              rw [b6lo b r1] at hc
              have h9 := hc
              rw [r2] at h9
              injection h9 with h9
              injection h9 with h9 h10
              subst h9
              exact .inr (.inr ⟨r3, r4, hc, n3⟩)
          rcases cls b y hb c κ hc with ⟨e1, e2⟩ | ⟨e1, e2⟩ | ⟨e1, e2, e3, e4⟩
          · rcases cls b' y' hb' c κ' hc' with ⟨f1, f2⟩ | ⟨f1, f2⟩ | ⟨f1, f2, f3, f4⟩
            · rw [e1, f1]
            · exact absurd (e2.symm.trans f2) hne
            · omega
          · rcases cls b' y' hb' c κ' hc' with ⟨f1, f2⟩ | ⟨f1, f2⟩ | ⟨f1, f2, f3, f4⟩
            · exact absurd (f2.symm.trans e2) hne
            · rw [e1, f1]
            · exact absurd e2 f2
          · rcases cls b' y' hb' c κ' hc' with ⟨f1, f2⟩ | ⟨f1, f2⟩ | ⟨f1, f2, f3, f4⟩
            · omega
            · exact absurd f2 e2
            · exact @HR.inj sA β2 _ w0 hr0 b b' y y' c κ κ' e4 f4 e3 f3
        · replace hi : x.n4 ≤ i := hi
          rw [b6hi i (by omega)]
          exact @HR.fresh (sgOf ir vs) β h w li.hr i (by rw [← hnx]; exact hi)
        · show min low2 bt ≤ x.n4
          have := Nat.min_le_right low2 bt
          omega
      refine hQ _ _ ⟨β6, @Stp.mk sA β2 (.mk t2 n2 low2) w0 β6 (h6 t2 ni bt ms.size (min low2 bt) x (srtT nts)) w2 hrF (show n2 ≤ x.n4 by omega) (Nat.min_le_left _ _) b6lo (fun b c κ hb e => ?_) ⟨q1.trans (o1.trans li.os), q2.trans (o2.trans li.tape), q3.trans (o3.trans li.output), Nat.le_trans li.size (Nat.le_trans o4 q4), fun c hc hnn => ?_⟩, @Rel.mk sA N ds β6 (env5 bt) _ _ w2 hrF (fun t av ht => ?_) (by rw [put_size]; exact hN) (by rw [put_defers]; exact hd)⟩
      · rw [b6hi b hb] at e
        rcases li.new b c κ hb e with r | r
        · exact .inl r
        · exact .inr ⟨bt, κ0, Nat.min_le_right _ _, hbtn2, by rw [r]; exact hbt2⟩
      · refine hkeep c hc (fun e => hnn bt κ0 (Nat.min_le_right _ _) (by rw [e]; exact hbt2)) fun e => hnn ni κn ?_ (by rw [e]; exact hκn)
        exact Nat.le_trans (Nat.min_le_right _ _) (Nat.le_of_lt hbtni)
      · unfold env5 at ht
        rw [get_set] at ht
        split at ht
        · rename_i e
          have e' := path_inj e
          injection ht with ht
          subst ht
          rw [e', getD_put_ne' hdst, v4]
          simp only [con, hbt6]; rfl
        · rw [get_leaf] at ht; cases ht
  rw [← hops] at key
  exact wp_region_list key
end
end Go.Ev
