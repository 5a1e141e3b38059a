/- The evaluator: a loop over nodes: that it ends, and what it leaves. -/
import Derived.Test.YtbeoeghcmabemaaGreatDoorEvTC
set_option linter.unusedVariables false
set_option linter.unusedSectionVars false
set_option linter.unusedSimpArgs false
namespace Go.Ev
open Go.RowKit
variable {P : Program}

/-- What holds of the parts alone. -/
structure Cy (P : Program) (N keep : Nat) (p : NewParts) : Prop where
  hm : P.follows .mixedOrders = true
  o14 : ∃ x y, p.ops14.toList = [x, y] ∧ x.op = .next (.tmp 60) false ∧ x.dst = some 61 ∧ x.guard = none ∧ y.op = .extract (.tmp 61) 0 ∧ y.dst = some 62 ∧ y.guard = none
  o15 : ∃ x l, p.ops15.toList = x :: l ∧ x.op = .entry (.tmp 60) ∧ x.dst = some 63 ∧ x.guard = none
  n : 64 ≤ N
  dst15 : ∀ o ∈ p.ops15.toList, ∀ d, o.dst = some d → d < N
section
variable {N keep fuel : Nat} {p : NewParts} {bt n2 : Nat}
theorem roundK_ex [Sl] (cy : Cy P N keep p) (k4 : inMask keep 4 = true) (k60 : inMask keep 60 = true) (k63 : inMask keep 63 = false) {i : Nat} {h : Hp} {k : Hp → Ans} (H : roundK P N keep fuel p bt n2 i (envS bt) h k = .yes) : ∃ h', k h' = .yes := by
  letI sg : Sg := sgOf 0 []
  obtain ⟨x, l, hops, hop, hdst, hg⟩ := cy.o15
  have hK0 : EnvK keep (envS bt) := fun t ht => by
    cases hget : (envS bt).get (path t) with
    | none => rfl
    | some av =>
      rcases envS_get hget with ⟨rfl, -⟩ | ⟨rfl, -⟩
      · rw [k4] at ht; cases ht
      · rw [k60] at ht; cases ht
  have pl0 : Pl P keep (x :: l) [] 0 [] (envS bt) (fun t => (envS bt).get (path t)) := ⟨⟨rfl, fun t av h => h⟩, hK0, fun t av h => h, fun e he => by cases he⟩
  have hdn : dstP keep x = none := by unfold dstP; rw [hdst]; dsimp only; rw [k63]
  have pl1 := pl0.push (.tup [.sym (4 * i), .agg [.sym (4 * i + 1), .sym (4 * i + 2), .sym (4 * i + 3)]])
  rw [hdn, hdst] at pl1
  unfold roundK at H
  rw [hops] at H
  obtain ⟨env1, h1, H1, hK1, hw1⟩ := seq_sound (noCall_sound (P := P)) (N := N) (ops := p.ops15) (bf := (x :: l).map fun _ => 0) l (l.map fun _ => 0) [(63, .inl 0)] 1 1 [_] (envS bt) _ h _ (by simp) (fun o ho => cy.dst15 o (by rw [hops]; exact List.mem_cons_of_mem _ ho)) pl1 (by rw [hops]; exact H)
  obtain ⟨ex, env2, h2, H2, hK2, hw2⟩ := run_sound (regOK cy.hm noCall noCall_sound N keep) fuel (.code (.region p.i16 p.ops16 true)) env1 h1 _ H1 hK1
  obtain ⟨rfl, H3⟩ := onNormal_no H2
  obtain ⟨H4, q4, q60⟩ := stillK_yes H3
  obtain ⟨ty, m, c, exx, sz, bg, off, len, ex2, d, blg, p1, p2, p3, p4, p5, H5⟩ := pickK_yes H4
  exact ⟨_, H5⟩
theorem loopK_ex [Sl] (cy : Cy P N keep p) (k4 : inMask keep 4 = true) (k60 : inMask keep 60 = true) (k63 : inMask keep 63 = false) : ∀ (m i : Nat) (h : Hp) (k : Hp → Ans), loopK P N keep fuel p bt n2 m i h k = .yes → ∃ h', k h' = .yes := by
  intro m
  induction m with
  | zero => exact fun i h k H => ⟨h, H⟩
  | succ m ih =>
    intro i h k H
    replace H : envSK bt (fun env => roundK P N keep fuel p bt n2 i env h fun h' => fNat (Nat.succ i) fun i' => loopK P N keep fuel p bt n2 m i' h' k) = .yes := H
    rw [envSK_eq] at H
    obtain ⟨h', H'⟩ := roundK_ex cy k4 k60 k63 H
    rw [fNat_eq] at H'
    exact ih _ _ _ H'
theorem symsK_yes [Sg] {c : Tr AV} {x : Ans} : ∀ (m j : Nat), symsK c x m j = .yes → x = .yes ∧ ∀ q, j ≤ q → q < j + m → c.get (path (3 * q)) = some (.sym (4 * q + 1)) ∧ c.get (path (3 * q + 1)) = some (.sym (4 * q + 2)) ∧ c.get (path (3 * q + 2)) = some (.sym (4 * q + 3)) := by
  intro m
  induction m with
  | zero => exact fun j H => ⟨H, fun q h1 h2 => by omega⟩
  | succ m ih =>
    intro j H
    replace H : (c.getP (path (3 * j)) (.no 257) fun a => c.getP (path (3 * j + 1)) (.no 257) fun b => c.getP (path (3 * j + 2)) (.no 257) fun d => (match a, b, d with
      | .sym a, .sym b, .sym d => cnd (Nat.beq a (4 * j + 1) && Nat.beq b (4 * j + 2) && Nat.beq d (4 * j + 3)) (fNat (Nat.succ j) (symsK c x m)) (.no 258)
      | _, _, _ => .no 259 : Ans)) = .yes := H
    obtain ⟨a, ha, H⟩ := getP_yes H
    obtain ⟨b, hb, H⟩ := getP_yes H
    obtain ⟨d, hd, H⟩ := getP_yes H
    split at H
    · rename_i a b d
      obtain ⟨h1, H⟩ := cnd_yes H
      rw [fNat_eq] at H
      rw [Bool.and_eq_true, Bool.and_eq_true] at h1
      obtain ⟨⟨e1, e2⟩, e3⟩ := h1
      obtain ⟨hx, hr⟩ := ih _ H
      refine ⟨hx, fun q g1 g2 => ?_⟩
      by_cases hq : q = j
      · subst hq
        rw [ha, hb, hd, Nat.eq_of_beq_eq_true e1, Nat.eq_of_beq_eq_true e2, Nat.eq_of_beq_eq_true e3]
        exact ⟨rfl, rfl, rfl⟩
      · exact hr q (by omega) (by omega)
    · cases H
theorem cellsK_yes [Sg] {n : Nat} {c : Tr AV} : ∀ (m j : Nat) (k : List AV → Ans), cellsK n c m j k = .yes → ∃ l, l.length = m ∧ k l = .yes ∧ ∀ q a, l[q]? = some a → c.get (path (j + q)) = some a ∧ (j + q = 2 ∨ lowA1 n a = true) := by
  intro m
  induction m with
  | zero => exact fun j k H => ⟨[], rfl, H, fun q a h => by simp at h⟩
  | succ m ih =>
    intro j k H
    replace H : (c.getP (path j) (.no 267) fun a => cnd (Nat.beq j 2 || lowA1 n a) (fNat (Nat.succ j) fun j' => cellsK n c m j' fun r => k (a :: r)) (.no 268)) = .yes := H
    obtain ⟨a, ha, H⟩ := getP_yes H
    obtain ⟨h1, H⟩ := cnd_yes H
    rw [fNat_eq] at H
    obtain ⟨l, hl, hk, hr⟩ := ih _ _ H
    refine ⟨a :: l, by simp [hl], hk, fun q b hq => ?_⟩
    cases q with
    | zero =>
      injection hq with hq
      subst hq
      refine ⟨ha, ?_⟩
      rw [Bool.or_eq_true] at h1
      rcases h1 with h1 | h1
      · exact .inl (Nat.eq_of_beq_eq_true h1)
      · exact .inr h1
    | succ q =>
      have := hr q b hq
      rw [show j + (q + 1) = Nat.succ j + q by omega]
      exact this
/-- What a loop over nodes leaves. -/
structure IsRes (n2 bt cnt : Nat) (h : Hp) (x : Res) : Prop where
  tree : ∃ c, h.tr.get (path bt) = some (.cells x.ty x.l.length c true x.sz) ∧ ∀ q a, x.l[q]? = some a → c.get (path q) = some a ∧ (q = 2 ∨ lowA1 n2 a = true)
  lo : bt ≤ h.lo
  slice : ∀ a, x.l[2]? = some a → a = .slice x.bg 0 cnt false 0
  bg : ∃ c, h.tr.get (path x.bg) = some (.cells x.e3 (3 * cnt) c false 3) ∧ ∀ q, q < cnt → c.get (path (3 * q)) = some (.sym (4 * q + 1)) ∧ c.get (path (3 * q + 1)) = some (.sym (4 * q + 2)) ∧ c.get (path (3 * q + 2)) = some (.sym (4 * q + 3))
  ge : n2 ≤ x.bg
  lt : x.bg < x.n4
  nx : x.n4 = h.nx
theorem resK2_yes [Sg] {cnt : Nat} {h : Hp} {k : Res → Ans} (H : resK2 n2 bt cnt h k = .yes) : ∃ x, IsRes n2 bt cnt h x ∧ k x = .yes := by
  obtain ⟨t4, n4, low4⟩ := h
  unfold resK2 at H
  obtain ⟨bl, h1, H⟩ := getP_yes H
  split at H
  · rename_i ty m c ex sz
    obtain ⟨h2, H⟩ := cnd_yes H
    rw [Bool.and_eq_true] at h2
    obtain ⟨l, hl, H, hr⟩ := cellsK_yes _ _ _ H
    obtain ⟨s, h3, H⟩ := getP_yes H
    split at H
    · rename_i bg len
      obtain ⟨blg, h4, H⟩ := getP_yes H
      split at H
      · rename_i e3 m3 c3 ex3 sz3
        obtain ⟨h5, H⟩ := cnd_yes H
        simp only [Bool.and_eq_true] at h5
        obtain ⟨⟨⟨⟨⟨g1, g2⟩, g3⟩, g4⟩, g5⟩, g6⟩ := h5
        obtain ⟨H7, hs⟩ := symsK_yes _ _ H
        have e1 : ex3 = false := by simpa using g1
        subst e1
        have e2 := Nat.eq_of_beq_eq_true g2
        have e3' := Nat.eq_of_beq_eq_true g3
        have e4 := Nat.eq_of_beq_eq_true g4
        subst e2 e3' e4
        refine ⟨⟨ty, sz, l, bg, e3, n4⟩, ⟨⟨c, ?_, fun q a hq => ?_⟩, Nat.le_of_ble_eq_true h2.2, fun a ha => ?_, ⟨c3, h4, fun q hq => hs q (Nat.zero_le _) (by omega)⟩, Nat.le_of_ble_eq_true g5, Nat.le_of_ble_eq_true g6, rfl⟩, H7⟩
        · show t4.get (path bt) = some (.cells ty l.length c true sz)
          rw [hl, h1, h2.1]
        · have := hr q a hq
          rwa [Nat.zero_add] at this
        · have := (hr 2 a ha).1
          rw [Nat.zero_add, h3] at this
          injection this with this; exact this.symm
      · cases H
    · cases H
  · cases H
/-- What a loop leaves is the same whatever comes first. -/
theorem sameR_eq [Sg] [Sl] {x y : Res} (h : sameR x y = true) : x = y := by
  obtain ⟨a, b, c, d, e, f⟩ := x
  obtain ⟨a', b', c', d', e', f'⟩ := y
  unfold sameR at h
  simp only [Bool.and_eq_true] at h
  obtain ⟨⟨⟨⟨⟨h1, h2⟩, h3⟩, h4⟩, h5⟩, h6⟩ := h
  rw [Nat.eq_of_beq_eq_true h1, Nat.eq_of_beq_eq_true h2, eqAL_eq h3, Nat.eq_of_beq_eq_true h4, Nat.eq_of_beq_eq_true h5, Nat.eq_of_beq_eq_true h6]
theorem upon_then {o : Oper} {a : Act} {w : World} {next next' : Act → World → Prop} {Q Q' : Exit → Act → World → Prop} (hn : ∀ a w, next a w → next' a w) (hp : ∀ ch w, Q (.panic ch) a w → Q' (.panic ch) a w) (hl : LetsOut Q → LetsOut Q') (h : o.wp P a w next Q) : o.wp P a w next' Q' := by
  unfold Oper.wp at h ⊢
  revert h
  generalize (execOp a.eval o).run P w = r
  intro h
  unfold Oper.upon at h ⊢
  split at h
  · exact hn _ _ h
  · exact hn _ _ h
  · exact hn _ _ h
  · refine h.mono fun e w2 he => ?_
    cases e with
    | returned v => exact hn _ _ he
    | panicked ch => exact hp _ _ he
    | outgrown => exact hl he
  · exact h.mono fun v w2 he => hn _ _ he
  · exact hp _ _ h
  · cases h
theorem wpList_cut {ops : Array Oper} {Q : Exit → Act → World → Prop} {tail : List Oper} : ∀ {l : List Oper} {a : Act} {w : World},
    wpList P ops (fun e a w => match e with | .normal => wpList P ops Q tail a w | e => Q e a w) l a w → wpList P ops Q (l ++ tail) a w
  | [], a, w, h => h
  | o :: l, a, w, h => by
    unfold wpList at h
    rw [List.cons_append]
    unfold wpList
    split at h
    · rename_i hw
      rw [if_pos hw]
      rcases h with h | ⟨h1, h2⟩
      · exact .inl (upon_then (fun a w h => wpList_cut h) (fun ch w h => h) (fun h => h) h)
      · exact .inr ⟨h1, h2⟩
    · rename_i hw
      rw [if_neg hw]
      exact wpList_cut h
end
end Go.Ev
namespace Go.Ev
open Go.RowKit
variable {P : Program}

theorem blt_of {x y : Nat} (h : Nat.blt x y = true) : x < y := Nat.le_of_ble_eq_true h
theorem blt_not {x y : Nat} (h : ¬ x < y) : Nat.blt x y = false := by
  rw [Bool.eq_false_iff]; exact fun hb => h (blt_of hb)
theorem ltN_asymm : ∀ {x y : List Nat}, ltN x y = true → ltN y x = false
  | [], [], h => by cases h
  | [], _ :: _, h => rfl
  | _ :: _, [], h => by cases h
  | x :: xs, y :: ys, h => by
    unfold ltN at h ⊢
    rw [Bool.or_eq_true] at h
    rw [Bool.or_eq_false_iff]
    rcases h with h | h
    · have h1 : x < y := blt_of h
      refine ⟨blt_not (by omega), ?_⟩
      rw [Bool.and_eq_false_iff]; left
      rw [Bool.eq_false_iff]; exact fun hb => by have := Nat.eq_of_beq_eq_true hb; omega
    · rw [Bool.and_eq_true] at h
      have h1 := Nat.eq_of_beq_eq_true h.1
      subst h1
      refine ⟨blt_not (by omega), ?_⟩
      rw [Bool.and_eq_false_iff]; right; exact ltN_asymm h.2
theorem insT_perm (x : NT) : ∀ l : List NT, (insT x l).Perm (x :: l)
  | [] => .refl _
  | y :: l => by
    unfold insT
    cases ltN x.p y.p with
    | true => exact .refl _
    | false => exact ((insT_perm x l).cons y).trans (.swap x y l)
theorem srtT_perm : ∀ l : List NT, (srtT l).Perm l
  | [] => .refl _
  | x :: l => (insT_perm x (srtT l)).trans ((srtT_perm l).cons x)
theorem riseB_pw : ∀ {l : List NT}, riseB l = true → l.Pairwise fun x y => ltN x.p y.p = true
  | [], _ => .nil
  | x :: l, h => by
    unfold riseB at h
    rw [Bool.and_eq_true] at h
    exact .cons (fun y hy => List.all_eq_true.1 h.1 y hy) (riseB_pw h.2)
/-- What is told of a node. -/
abbrev Row3 := List Nat × Value × Value
/-- Rows in order are those rows in order. -/
theorem rows_eq {nts : List NT} {f : NT → Row3} (hf : ∀ x, (f x).1 = x.p) (hr : riseB (srtT nts) = true) {d' : List Row3} (hp : d'.Perm (nts.map f)) (hs : d'.Pairwise fun x y => ltN y.1 x.1 = false) : d' = (srtT nts).map f := by
  have pw := riseB_pw hr
  have hp2 : d'.Perm ((srtT nts).map f) := hp.trans ((srtT_perm nts).map f).symm
  refine List.Perm.eq_of_pairwise (le := fun x y => ltN y.1 x.1 = false) ?_ hs ?_ hp2
  · intro a b ha hb h1 h2
    have ha' := hp2.mem_iff.1 ha
    obtain ⟨x, hx, rfl⟩ := List.mem_map.1 ha'
    obtain ⟨y, hy, rfl⟩ := List.mem_map.1 hb
    rw [hf, hf] at h1 h2
    by_cases e : x = y
    · rw [e]
    · exfalso
      have : ∀ {l : List NT}, (l.Pairwise fun x y => ltN x.p y.p = true) → x ∈ l → y ∈ l → ltN x.p y.p = true ∨ ltN y.p x.p = true := by
        intro l hl
        induction hl with
        | nil => intro h; cases h
        | cons h hl ih =>
          intro h3 h4
          rcases List.mem_cons.1 h3 with e3 | h3
          · rcases List.mem_cons.1 h4 with e4 | h4
            · exact absurd (e3.trans e4.symm) e
            · rw [e3]; exact .inl (h _ h4)
          · rcases List.mem_cons.1 h4 with e4 | h4
            · rw [e4]; exact .inr (h _ h3)
            · exact ih h3 h4
      rcases this pw hx hy with h | h
      · rw [h] at h2; cases h2
      · rw [h] at h1; cases h1
  · rw [List.pairwise_map]
    exact pw.imp fun {x y} h => by rw [hf, hf]; exact ltN_asymm h
/-- A node in the map, and what is known of it. -/
structure NtR [Sg] (β : Bt) (x : NT) (m : MapEntry) : Prop where
  key : flatV m.key = true
  val : ∃ b c, m.val = .agg #[.string (bytesOf x.p), b, c] ∧ con β x.b = some b ∧ con β x.c = some c ∧ flatV b = true ∧ flatV c = true
  all : x.p.all (· < 256) = true
  a : ∃ n, x.a = .str n x.p ∧ con β x.a = some (.string (bytesOf x.p))
  fb : flatB.flat1 x.b = true
  fc : flatB.flat1 x.c = true
inductive All2 {α β : Type} (R : α → β → Prop) : List α → List β → Prop
  | nil : All2 R [] []
  | cons {a b l m} : R a b → All2 R l m → All2 R (a :: l) (b :: m)
theorem All2.len {α β : Type} {R : α → β → Prop} {l : List α} {m : List β} (h : All2 R l m) : l.length = m.length := by
  induction h with
  | nil => rfl
  | cons _ _ ih => simp [ih]
theorem All2.get {α β : Type} {R : α → β → Prop} {l : List α} {m : List β} (h : All2 R l m) : ∀ {i : Nat} {b : β}, m[i]? = some b → ∃ a, l[i]? = some a ∧ R a b := by
  induction h with
  | nil => intro i b h; simp at h
  | cons hr h ih =>
    intro i b hb
    cases i with
    | zero => injection hb with hb; subst hb; exact ⟨_, rfl, hr⟩
    | succ i => exact ih hb
theorem All2.mem {α β : Type} {R : α → β → Prop} {l : List α} {m : List β} (h : All2 R l m) {b : β} (hb : b ∈ m) : ∃ a, a ∈ l ∧ R a b := by
  obtain ⟨i, hi⟩ := List.mem_iff_getElem?.1 hb
  obtain ⟨a, h1, h2⟩ := h.get hi
  exact ⟨a, List.mem_of_getElem? h1, h2⟩
/-- Those of the one in another order: those of the other one. -/
theorem All2.perm {α β : Type} {R : α → β → Prop} {m m' : List β} (hp : m.Perm m') : ∀ {l : List α}, All2 R l m → ∃ l', l'.Perm l ∧ All2 R l' m' := by
  induction hp with
  | nil => exact fun h => ⟨_, .refl _, h⟩
  | cons x _ ih =>
    intro l h
    cases h with
    | cons hr h =>
      obtain ⟨l', h1, h2⟩ := ih h
      exact ⟨_, h1.cons _, .cons hr h2⟩
  | swap x y l0 =>
    intro l h
    cases h with
    | cons hr h =>
      cases h with
      | cons hr2 h => exact ⟨_, .swap _ _ _, .cons hr2 (.cons hr h)⟩
  | trans _ _ ih1 ih2 =>
    intro l h
    obtain ⟨l', h1, h2⟩ := ih1 h
    obtain ⟨l'', h3, h4⟩ := ih2 h2
    exact ⟨l'', h3.trans h1, h4⟩
theorem ntL_ents [Sg] {β : Bt} : ∀ {es : List (AV × AV × Nat)} {ms : List MapEntry} {nts : List NT}, EntR β es ms → ntL es = some nts → All2 (NtR β) nts ms
  | [], [], nts, _, h => by unfold ntL at h; injection h with h; subst h; exact .nil
  | [], _ :: _, nts, h, _ => h.elim
  | _ :: _, [], nts, h, _ => h.elim
  | e :: es, m :: ms, nts, ⟨h1, h2, h3, h4⟩, h => by
    unfold ntL at h
    split at h
    · rename_i n l x xs q1 q2 q3
      injection h with h
      subst h
      refine .cons ?_ (ntL_ents h4 q3)
      unfold ntOf at q2
      split at q2
      · rename_i n2 l2 b c q4
        rw [q4] at h2
        cases hfl : (flatB.flat1 b && flatB.flat1 c) with
        | false => rw [hfl] at q2; cases q2
        | true =>
          rw [hfl] at q2
          injection q2 with q2
          subst q2
          rw [Bool.and_eq_true] at hfl
          simp only [con, conL, Option.bind_eq_some_iff, Option.map_eq_some_iff] at h2
          obtain ⟨vs, ⟨va, ha, vs1, ⟨vb, hb, vs2, ⟨vc, hc, vs3, hd, rfl⟩, rfl⟩, rfl⟩, h2⟩ := h2
          split at ha
          · rename_i hstr
            injection ha with ha
            subst ha
            injection hd with hd
            subst hd
            split at h2
            · rename_i hall
              injection h2 with h2
              simp only [List.all_cons, Bool.and_eq_true] at hall
              rw [q1] at h1
              refine ⟨?_, ⟨vb, vc, h2.symm, hb, hc, hall.2.1, hall.2.2.1⟩, hstr.2, ⟨n2, rfl, by simp only [con]; rw [if_pos hstr]⟩, hfl.1, hfl.2⟩
              simp only [con] at h1
              split at h1
              · injection h1 with h1; rw [← h1]; rfl
              · cases h1
            · cases h2
          · cases ha
      · cases q2
    · cases h
end Go.Ev
namespace Go.Ev
open Go.RowKit
variable {P : Program}

/-- Rows of three cells, put in order of the first by the library. -/
def SortAt (P : Program) (fs fc : Nat) : Prop := ∀ (w : World) (blk cap : Nat) (d : List Row3) (cs : Array Value) (e : TypeId) (fz : Nat × Nat),
  w.heap[blk]? = some (.cells cs e fz) → (∀ i, i < cs.size → ¬ (fz.1 ≤ i ∧ i < fz.2)) → d.length < 100000 → d.length ≤ cap → cs.size = cap * 3 →
  (∀ x ∈ d, x.1.all (· < 256) = true ∧ flatV x.2.1 = true ∧ flatV x.2.2 = true) →
  (∀ q x, d[q]? = some x → cs[3 * q]? = some (.string (bytesOf x.1)) ∧ cs[3 * q + 1]? = some x.2.1 ∧ cs[3 * q + 2]? = some x.2.2) →
  (callFunc fs #[.slice (some ⟨blk, 0, none⟩) d.length cap, .func (.func fc) #[] #[]]).run P w = .ok (.enter fs #[.slice (some ⟨blk, 0, none⟩) d.length cap, .func (.func fc) #[] #[]]) w ∧
  Calls P fs #[.slice (some ⟨blk, 0, none⟩) d.length cap, .func (.func fc) #[] #[]] w fun ee w' => ee = .returned (.tuple #[]) ∧ ∃ (d' : List Row3) (cs' : Array Value), d'.Perm d ∧ d'.Pairwise (fun x y => ltN y.1 x.1 = false) ∧
    w'.os = w.os ∧ w'.tape = w.tape ∧ w'.output = w.output ∧ w.heap.size ≤ w'.heap.size ∧ (∀ c, c < w.heap.size → c ≠ blk → w'.heap[c]? = w.heap[c]?) ∧
    w'.heap[blk]? = some (.cells cs' e fz) ∧ cs'.size = cs.size ∧ ∀ q x, d'[q]? = some x → cs'[3 * q]? = some (.string (bytesOf x.1)) ∧ cs'[3 * q + 1]? = some x.2.1 ∧ cs'[3 * q + 2]? = some x.2.2
/-- What holds of the operations around the sort. -/
structure Cz (P : Program) (N keep : Nat) (p : NewParts) (fs fc : Nat) : Prop where
  dst17 : ∀ o ∈ p.ops17.toList.dropLast, ∀ d, o.dst = some d → d < N
  o17 : ∃ o args ats, p.ops17.toList = p.ops17.toList.dropLast ++ [o] ∧ o.op = .call ⟨.value (.func fs), args, ats⟩ ∧ args.toList = [.tmp 78, .func fc] ∧ o.guard = none ∧ o.dst ≠ some 4
  sort : SortAt P fs fc
section
variable {N keep fuel : Nat} {p : NewParts} {bt n2 cnt : Nat} {x : Res} {fs fc : Nat}
noncomputable def h17 (bt : Nat) (x : Res) : Hp := .mk (Tr.set (path bt) (some (.cells x.ty x.l.length (putL x.l 0 .leaf) true x.sz)) .leaf) x.n4 x.n4
theorem pre17_yes [Sg] [Sl] (cz : Cz P N keep p fs fc) (k4 : inMask keep 4 = true) (k60 : inMask keep 60 = true) {K : Ans} (H : pre17 P keep p bt x cnt K = .yes) :
    K = .yes ∧ (x.bg < x.n4 → bt < x.n4 → ∀ ds β a w, HR β (h17 bt x) w → CvR β (fun t => (envS bt).get (path t)) a.tmps → N ≤ a.tmps.size → a.defers = ds → GlobK P β → ∀ Q : Exit → Act → World → Prop,
      (∀ a' w', con β (.slice x.bg 0 cnt false 0) = some (a'.tmps.getD 78 undef) → con β (.ptr bt 0) = some (a'.tmps.getD 4 undef) → N ≤ a'.tmps.size → a'.defers = ds → w'.os = w.os → w'.tape = w.tape → w'.output = w.output → w.heap.size ≤ w'.heap.size → (∀ c, c < w.heap.size → w'.heap[c]? = w.heap[c]?) → Q .normal a' w') →
      wpList P p.ops17 Q p.ops17.toList.dropLast a w) := by
  unfold pre17 at H
  rw [writeL_eq, setP_eq, envSK_eq] at H
  have hK0 : EnvK (Nat.lor keep (Nat.pow 2 78)) (envS bt) := fun t ht => by
    rw [inMask_lor, Bool.or_eq_false_iff] at ht
    cases hget : (envS bt).get (path t) with
    | none => rfl
    | some av =>
      rcases envS_get hget with ⟨rfl, -⟩ | ⟨rfl, -⟩
      · rw [k4] at ht; cases ht.1
      · rw [k60] at ht; cases ht.1
  have pl0 : Pl P (Nat.lor keep (Nat.pow 2 78)) p.ops17.toList.dropLast [] 0 [] (envS bt) (fun t => (envS bt).get (path t)) := ⟨⟨rfl, fun t av h => h⟩, hK0, fun t av h => h, fun e he => by cases he⟩
  obtain ⟨env1, h1, H1, hK1, hw1⟩ := seq_sound (noCall_sound (P := P)) (N := N) (ops := p.ops17) (bf := p.ops17.toList.map fun _ => 0) p.ops17.toList.dropLast (p.ops17.toList.dropLast.map fun _ => 0) [] 0 0 [] (envS bt) _ (h17 bt x) _ (by simp) cz.dst17 pl0 H
  obtain ⟨t1, n, low⟩ := h1
  obtain ⟨h2, H2⟩ := cnd_yes H1
  obtain ⟨s, h3, H3⟩ := getP_yes H2
  obtain ⟨h4, H4⟩ := cnd_yes H3
  obtain ⟨y, h5, H5⟩ := getP_yes H4
  obtain ⟨h6, H6⟩ := cnd_yes H5
  rw [Bool.and_eq_true] at h2
  have e1 := Nat.eq_of_beq_eq_true h2.1
  have e2 := Nat.eq_of_beq_eq_true h2.2
  subst e1 e2
  obtain rfl := eqA1_eq h4
  obtain rfl := eqA1_eq h6
  refine ⟨H6, fun hbg hbt ds β a w hr hc hN hds hg Q hQ => hw1 ds β a w hr hc hN hds hg Q fun a' w' ⟨β', s, r⟩ => ?_⟩
  have hold : ∀ b, b < x.n4 → β' b = β b := fun b hb => s.old b hb
  refine hQ a' w' ?_ ?_ r.size r.defers s.kept.os s.kept.tape s.kept.output s.kept.size fun c hc => s.kept.block c hc fun b κ hb e => ?_
  · have := r.env 78 _ h3
    rw [← this]
    simp only [con, hold _ hbg]
  · have := r.env 4 _ h5
    rw [← this]
    simp only [con, hold _ hbt]
  · have := hr.fresh b hb
    rw [this] at e; cases e
end
end Go.Ev
