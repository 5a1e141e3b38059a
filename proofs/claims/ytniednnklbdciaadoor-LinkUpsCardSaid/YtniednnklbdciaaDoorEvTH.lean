/- The evaluator: a function that makes a tree. -/
import Derived.Test.YtniednnklbdciaaDoorEvTG
set_option linter.unusedVariables false
set_option linter.unusedSectionVars false
set_option linter.unusedSimpArgs false
namespace Go.Ev
open Go.RowKit
variable {P : Program}

theorem EntR.mem [Sg] {β : Bt} : ∀ {es : List (AV × AV × Nat)} {ms : List MapEntry}, EntR β es ms → ∀ m ∈ ms, ∃ e ∈ es, m.born = e.2.2
  | [], [], _, m, hm => by cases hm
  | [], _ :: _, h, _, _ => h.elim
  | _ :: _, [], h, _, _ => h.elim
  | e :: es, m :: ms, ⟨_, _, h3, h⟩, x, hx => by
    rcases List.mem_cons.1 hx with rfl | hx
    · exact ⟨e, List.mem_cons_self .., h3⟩
    · obtain ⟨e', h1, h2⟩ := EntR.mem h x hx
      exact ⟨e', List.mem_cons_of_mem _ h1, h2⟩
theorem borns_of [Sg] {β : Bt} {clock : Nat} : ∀ {es : List (AV × AV × Nat)} {ms : List MapEntry}, EntR β es ms → bornsB clock es = true → (∀ m ∈ ms, m.born < clock) ∧ (ms.map (·.born)).Nodup
  | [], [], _, _ => ⟨(fun m hm => by cases hm), .nil⟩
  | [], _ :: _, h, _ => h.elim
  | _ :: _, [], h, _ => h.elim
  | e :: es, m :: ms, ⟨_, _, h3, h⟩, hb => by
    unfold bornsB at hb
    rw [Bool.and_eq_true, Bool.and_eq_true] at hb
    obtain ⟨i1, i2⟩ := borns_of h hb.2
    refine ⟨fun x hx => ?_, ?_⟩
    · rcases List.mem_cons.1 hx with rfl | hx
      · rw [h3]; exact blt_of hb.1.1
      · exact i1 x hx
    · rw [List.map_cons, List.nodup_cons]
      refine ⟨fun hm => ?_, i2⟩
      obtain ⟨x, hx, hxe⟩ := List.mem_map.1 hm
      obtain ⟨e', he', hee⟩ := h.mem x hx
      have := List.all_eq_true.1 hb.1.2 e' he'
      rw [← h3, ← hee, hxe, Nat.beq_refl] at this
      cases this
theorem lowK_yes {n : Nat} {c : Tr AV} {x : Ans} : ∀ (m j : Nat), lowK n c x m j = .yes → x = .yes ∧ ∀ q, j ≤ q → q < j + m → ∃ a, c.get (path q) = some a ∧ lowA1 n a = true := by
  intro m
  induction m with
  | zero => exact fun j H => ⟨H, fun q h1 h2 => by omega⟩
  | succ m ih =>
    intro j H
    replace H : (c.getP (path j) (.no 318) fun a => cnd (lowA1 n a) (fNat (Nat.succ j) (lowK n c x m)) (.no 319)) = .yes := H
    obtain ⟨a, ha, H⟩ := getP_yes H
    obtain ⟨h1, H⟩ := cnd_yes H
    rw [fNat_eq] at H
    obtain ⟨hx, hr⟩ := ih _ H
    refine ⟨hx, fun q g1 g2 => ?_⟩
    by_cases hq : q = j
    · subst hq; exact ⟨a, ha, h1⟩
    · exact hr q (by omega) (by omega)
theorem NtR.any [Sg] {β β' : Bt} {x : NT} {m : MapEntry} (h : NtR β x m) : NtR β' x m := by
  obtain ⟨h1, ⟨b, c, e, hb, hc, f1, f2⟩, h3, ⟨n, ea, ha⟩, h5, h6⟩ := h
  refine ⟨h1, ⟨b, c, e, by rw [← flat1_sg h5 β β']; exact hb, by rw [← flat1_sg h6 β β']; exact hc, f1, f2⟩, h3, ⟨n, ea, ?_⟩, h5, h6⟩
  rw [ea] at ha ⊢
  simpa only [con] using ha
theorem All2.imp {α β : Type} {R S : α → β → Prop} (hrs : ∀ a b, R a b → S a b) {l : List α} {m : List β} (h : All2 R l m) : All2 S l m := by
  induction h with
  | nil => exact .nil
  | cons hr _ ih => exact .cons (hrs _ _ hr) ih
section
variable {N keep fuel : Nat} {p : NewParts} {fs fc : Nat}
/-- A loop, and what it leaves, whatever comes first. -/
theorem loopPart_ex [Sl] (cy : Cy P N keep p) (k4 : inMask keep 4 = true) (k60 : inMask keep 60 = true) (k63 : inMask keep 63 = false) {bt n2 cnt : Nat} {h : Hp} {k : Res → Ans} (H : loopPart P N keep fuel p bt n2 cnt h k = .yes) : ∃ x, k x = .yes := by
  letI sg : Sg := sgOf 0 []
  obtain ⟨h', H'⟩ := loopK_ex cy k4 k60 k63 _ _ _ _ H
  obtain ⟨x, -, hx⟩ := resK2_yes H'
  exact ⟨x, hx⟩
/-- What lies between: the loop over the nodes, and the sort. -/
theorem midK_sound [sA : Sg] [Sl] (cy : Cy P N keep p) (cz : Cz P N keep p fs fc) {env : Tr AV} {h : Hp} {k : Tr AV → Hp → Ans} (H : midK P N keep fuel p env h k = .yes) (hK : EnvK keep env) :
    ∃ env' h', k env' h' = .yes ∧ EnvK keep env' ∧ ∀ ds β a w, @Rel sA N ds β env h a w → GlobK P β → ∀ Q : Exit → Act → World → Prop, (∀ a' w', @Post sA N ds β h w env' h' a' w' → Q .normal a' w') →
      (Code.seq (.region p.i13 p.ops13 false) (.block p.b2 (.loop p.loopC))).wp P (Exit.then ((Code.region p.i17 p.ops17 false).wp P Q) Q) a w := by
  unfold midK at H
  obtain ⟨ex, env1, h1, H1, hK1, hw1⟩ := run_sound (regOK cy.hm noCall noCall_sound N keep) fuel (.code (.region p.i13 p.ops13 false)) env h _ H hK
  obtain ⟨rfl, H2⟩ := onNormal_no H1
  obtain ⟨y, g60, H3⟩ := getP_yes H2
  obtain ⟨t2, n2, low2⟩ := h1
  split at H3
  rotate_left
  · cases H3
  rename_i ni t2' n2' low2' heq
  injection heq with q1 q2 q3
  subst q1 q2 q3
  obtain ⟨bl, gni, H4⟩ := getP_yes H3
  split at H4
  rotate_left
  · cases H4
  rename_i bm since
  obtain ⟨bl, gbm, H5⟩ := getP_yes H4
  split at H5
  rotate_left
  · cases H5
  rename_i es clock
  obtain ⟨hb, H6⟩ := cnd_yes H5
  obtain ⟨y, g4, H7⟩ := getP_yes H6
  split at H7
  rotate_left
  · cases H7
  rename_i bt
  obtain ⟨bl, gbt, H8⟩ := getP_yes H7
  split at H8
  rotate_left
  · cases H8
  rename_i ty m c ex sz
  obtain ⟨hc, H9⟩ := cnd_yes H8
  rw [fNat_eq] at H9
  obtain ⟨H10, hlow⟩ := lowK_yes _ _ H9
  simp only [Bool.and_eq_true] at hc hb
  obtain ⟨⟨⟨⟨⟨⟨c1, c2⟩, c3⟩, c4⟩, k4⟩, k60⟩, c7⟩ := hc
  have k63 : inMask keep 63 = false := by simpa using c7
  have c2' := blt_of c2
  have c3' := blt_of c3
  have c4' := Nat.le_of_ble_eq_true c4
  have hsc := Nat.eq_of_beq_eq_true hb.1
  subst hsc
  have hb2 := hb.2
  cases hnt : ntL es with
  | none => rw [hnt] at H10; cases H10
  | some nts =>
  rw [hnt] at H10
  replace H10 : lenK (es.map (·.1)) (fun cnt => cnd (riseB (srtT nts) && Nat.blt cnt 100000) (Tr.setP (path bt) (some (.cells ty m c ex sz)) .leaf fun ts =>
    loopPart P N keep fuel p bt n2 cnt (.mk ts n2 n2) fun x => loopPart P N keep fuel p bt n2 cnt (.mk ts n2 n2) fun y => cnd (sameR x y) (pre17 P keep p bt x cnt (
      writeL x.l 0 .leaf fun c1 => writeL (cellsT (srtT nts)) 0 .leaf fun c2 =>
        t2.setP (path ni) none fun t => t.setP (path bt) (some (.cells x.ty x.l.length c1 true x.sz)) fun t => t.setP (path x.bg) (some (.cells x.e3 (3 * cnt) c2 false 3)) fun t => natMin low2 bt fun low =>
          Tr.setP (path 4) (some (.ptr bt 0)) .leaf fun env5 => k env5 (.mk t x.n4 low))) (.no 305)) (.no 286)) = .yes := H10
  rw [lenK_eq] at H10
  generalize hcnt : (es.map (·.1)).length = cnt at H10
  obtain ⟨hr, H11⟩ := cnd_yes H10
  rw [Bool.and_eq_true] at hr
  rw [setP_eq] at H11
  obtain ⟨x, H12⟩ := loopPart_ex cy k4 k60 k63 H11
  obtain ⟨y, H13⟩ := loopPart_ex cy k4 k60 k63 H12
  obtain ⟨hxy, H14⟩ := cnd_yes H13
  have hK' := (pre17_yes cz k4 k60 H14).1
  have hK2 := hK'
  rw [writeL_eq, writeL_eq, setP_eq, setP_eq, setP_eq, natMin_eq, setP_eq] at hK2
  refine ⟨env5 bt, h6 t2 ni bt cnt (min low2 bt) x (srtT nts), hK2, fun t ht => ?_, fun ds β a w hrel hg Q hQ => ?_⟩
  · unfold env5
    rw [get_set, get_leaf]
    split
    · rename_i e; rw [path_inj e, k4] at ht; cases ht
    · rfl
  refine wp_seq (wp_mono (hw1 ds β a w hrel hg) fun ee a1 w1 hp => ?_)
  obtain ⟨rfl, β2, s1, r1⟩ := hp
  have hr0 : HR β2 (.mk t2 n2 low2) w1 := s1.hr
  have hg2 : GlobK P β2 := hg.le (s1.le hrel.hr)
  -- the blocks
  obtain ⟨hnin, ir, κi, hβi, cbm, κm', hβm', hiter⟩ := hr0.blk ni _ gni
  obtain ⟨hbmn, cbm2, κm, hβm, ms, hmap, hent⟩ := hr0.blk bm _ gbm
  obtain ⟨hbtn, cbt, κt, hβt, cst, fzt, hcst, hfzt, helt, hszt, hszt2, hszt3⟩ := hr0.blk bt _ gbt
  rw [hβm'] at hβm
  injection hβm with hβm
  injection hβm with e1 e2
  subst e1 e2
  have hbtn' : bt < n2 := hbtn
  have ne1 : cbm ≠ cbt := fun e => by
    have := hr0.inj bm bt _ _ cbm _ _ gbm gbt hβm' (by rw [e]; exact hβt); omega
  have ne2 : cbm ≠ ir := fun e => by
    have := hr0.inj bm ni _ _ cbm _ _ gbm gni hβm' (by rw [e]; exact hβi); omega
  have ne3 : ir ≠ cbt := fun e => by
    have := hr0.inj ni bt _ _ ir _ _ gni gbt hβi (by rw [e]; exact hβt); omega
  obtain ⟨hborn, hnod⟩ := borns_of hent hb2
  have hall := ntL_ents hent hnt
  have hcnt2 : cnt = ms.size := by rw [← hcnt, List.length_map, hent.len, Array.length_toList]
  subst hcnt2
  have hms : ms.size < 100000 := blt_of hr.2
  let βr : Bt := fun b => if b ≤ bt then β2 b else none
  have brlo : ∀ b, b ≤ bt → βr b = β2 b := fun b hb => if_pos hb
  have brhi : ∀ b, bt < b → βr b = none := fun b hb => if_neg (by omega)
  have cx : Cx P N keep p ms since cbm ir bt cbt n2 βr w1 := by
    refine ⟨cy.hm, cy.o14, cy.o15, cy.n, cy.dst15, k4, k60, k63, fun g hgl => ?_, brhi, ⟨κt, by rw [brlo bt (Nat.le_refl _)]; exact hβt⟩, hbtn', hmap, ne1, ne2, ne3, (Array.getElem?_eq_some_iff.1 hiter).1, hborn, hnod, fun m hm => ?_⟩
    · rw [brlo g (by omega)]; exact hg2 g hgl
    · obtain ⟨y, -, hy⟩ := hall.mem hm
      obtain ⟨b, c, e, -, -, f1, f2⟩ := hy.val
      exact ⟨hy.key, _, _, _, e, rfl, f1, f2⟩
  have t4 : a1.tmps.getD 4 undef = .pointer (some ⟨cbt, 0, none⟩) := by
    have := r1.env 4 _ g4
    simp only [con, hβt] at this
    injection this with this; exact this.symm
  have t60 : a1.tmps.getD 60 undef = .pointer (some ⟨ir, 0, none⟩) := by
    have := r1.env 60 _ g60
    simp only [con, hβi] at this
    injection this with this; exact this.symm
  have one : ∀ b y, (Tr.set (path bt) (some (.cells ty m c ex sz)) (.leaf : Tr Blk)).get (path b) = some y → b = bt ∧ y = .cells ty m c ex sz := fun b y hb => by
    rw [get_set] at hb
    split at hb
    · rename_i e; injection hb with hb; exact ⟨path_inj e, hb.symm⟩
    · rw [get_leaf] at hb; cases hb
  have li : LInv ms since cbm ir bt cbt n2 βr w1 N ds [] βr (.mk (Tr.set (path bt) (some (.cells ty m c ex sz)) .leaf) n2 n2) a1 w1 := by
    refine ⟨?_, fun b y hb => .inl (one b y hb).1, Nat.le_refl _, Nat.le_of_lt hbtn', fun b _ => rfl, fun b c' κ hb e => ?_, rfl, rfl, rfl, Nat.le_refl _, fun c _ _ _ => rfl, t4, t60, r1.size, r1.defers, ⟨since, Nat.le_refl _, hiter⟩, (fun e he => by cases he), .nil⟩
    · refine @HR.mk (sgOf ir []) βr _ w1 (fun b y hb => ?_) (fun b b' y y' c' κ κ' hb hb' _ _ => by rw [(one b y hb).1, (one b' y' hb').1]) (fun i hi => brhi i (Nat.lt_of_lt_of_le hbtn' hi)) (Nat.le_refl _)
      obtain ⟨rfl, rfl⟩ := one b y hb
      refine ⟨hbtn', cbt, κt, by rw [brlo _ (Nat.le_refl _)]; exact hβt, cst, fzt, hcst, hfzt, fun i hi => ?_, hszt, hszt2, hszt3⟩
      obtain ⟨av, u, g1, g2, g3, g4⟩ := helt i hi
      obtain ⟨av', h1, h2⟩ := hlow i (Nat.zero_le _) (by omega)
      rw [g1] at h1
      injection h1 with h1
      subst h1
      exact ⟨av, u, g1, g2, low_sg (s := sA) (s' := sgOf ir []) h2 (fun b' hb' y hy => by rw [brlo b' (by omega)]; exact hy) g3, g4⟩
    · rw [brhi b (by omega)] at e; cases e
  show (Code.block p.b2 (.loop p.loopC)).wp P _ a1 w1
  refine wp_block (wp_loop_rounds (ms.size + 1) (loop_ok cx hms ms.size 0 _ H12 (by omega) [] βr a1 w1 rfl li _ fun h' vs' β' a' w' hk hvs li' => ?_))
  obtain ⟨y', hy', hk'⟩ := @resK2_yes bt n2 (sgOf ir vs') _ _ _ hk
  obtain ⟨hxy', H15⟩ := cnd_yes hk'
  obtain rfl := sameR_eq hxy'
  show (Code.region p.i17 p.ops17 false).wp P Q a' w'
  refine mid_end sA cx cz (es := es) (hall.imp fun _ _ h => h.any) hr.1 hms hr0 brlo ⟨κi, hβi⟩ ⟨_, gni⟩ ⟨_, gbt⟩ c3' H15 li' hvs hy' fun a2 w2 hp => hQ a2 w2 (hp.trans hrel.hr s1)
end
end Go.Ev
