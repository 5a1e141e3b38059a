/- The evaluator: a loop over nodes: that it ends, and what it leaves. -/
import Derived.Test.YtniednnklbdciaaDoorEvTC
set_option linter.unusedVariables false
set_option linter.unusedSectionVars false
set_option linter.unusedSimpArgs false
namespace Go.Ev
open Go.RowKit
variable {P : Program}

/-- What holds of the parts alone. -/
structure Cy (P : Program) (N keep : Nat) (p : NewParts) : Prop where
  hm : P.follows .mixedOrders = true
  o14 : ∃ x y, p.ops14.toList = [x, y] ∧ x.op = .next (.tmp 60) false ∧ x.dst = some 61 ∧ x.guard = none ∧ y.op = .extract (.tmp 61) 0 ∧ y.dst = some 62 ∧ y.guard = none
  o15 : ∃ x l, p.ops15.toList = x :: l ∧ x.op = .entry (.tmp 60) ∧ x.dst = some 63 ∧ x.guard = none
  n : 64 ≤ N
  dst15 : ∀ o ∈ p.ops15.toList, ∀ d, o.dst = some d → d < N
section
variable {N keep fuel : Nat} {p : NewParts} {bt n2 : Nat}
theorem roundK_ex [Sl] (cy : Cy P N keep p) (k4 : inMask keep 4 = true) (k60 : inMask keep 60 = true) (k63 : inMask keep 63 = false) {i : Nat} {h : Hp} {k : Hp → Ans} (H : roundK P N keep fuel p bt n2 i (envS bt) h k = .yes) : ∃ h', k h' = .yes := by
  letI sg : Sg := sgOf 0 []
  obtain ⟨x, l, hops, hop, hdst, hg⟩ := cy.o15
  have hK0 : EnvK keep (envS bt) := fun t ht => by
    cases hget : (envS bt).get (path t) with
    | none => rfl
    | some av =>
      rcases envS_get hget with ⟨rfl, -⟩ | ⟨rfl, -⟩
      · rw [k4] at ht; cases ht
      · rw [k60] at ht; cases ht
  have pl0 : Pl P keep (x :: l) [] 0 [] (envS bt) (fun t => (envS bt).get (path t)) := ⟨⟨rfl, fun t av h => h⟩, hK0, fun t av h => h, fun e he => by cases he⟩
  have hdn : dstP keep x = none := by unfold dstP; rw [hdst]; dsimp only; rw [k63]
  have pl1 := pl0.push (.tup [.sym (4 * i), .agg [.sym (4 * i + 1), .sym (4 * i + 2), .sym (4 * i + 3)]])
  rw [hdn, hdst] at pl1
  unfold roundK at H
  rw [hops] at H
  obtain ⟨env1, h1, H1, hK1, hw1⟩ := seq_sound (noCall_sound (P := P)) (N := N) (ops := p.ops15) (bf := (x :: l).map fun _ => 0) l (l.map fun _ => 0) [(63, .inl 0)] 1 1 [_] (envS bt) _ h _ (by simp) (fun o ho => cy.dst15 o (by rw [hops]; exact List.mem_cons_of_mem _ ho)) pl1 (by rw [hops]; exact H)
  obtain ⟨ex, env2, h2, H2, hK2, hw2⟩ := run_sound (regOK cy.hm noCall noCall_sound N keep) fuel (.code (.region p.i16 p.ops16 true)) env1 h1 _ H1 hK1
  obtain ⟨rfl, H3⟩ := onNormal_no H2
  obtain ⟨H4, q4, q60⟩ := stillK_yes H3
  obtain ⟨ty, m, c, exx, sz, bg, off, len, ex2, d, blg, p1, p2, p3, p4, p5, H5⟩ := pickK_yes H4
  exact ⟨_, H5⟩
theorem loopK_ex [Sl] (cy : Cy P N keep p) (k4 : inMask keep 4 = true) (k60 : inMask keep 60 = true) (k63 : inMask keep 63 = false) : ∀ (m i : Nat) (h : Hp) (k : Hp → Ans), loopK P N keep fuel p bt n2 m i h k = .yes → ∃ h', k h' = .yes := by
  intro m
  induction m with
  | zero => exact fun i h k H => ⟨h, H⟩
  | succ m ih =>
    intro i h k H
    replace H : envSK bt (fun env => roundK P N keep fuel p bt n2 i env h fun h' => fNat (Nat.succ i) fun i' => loopK P N keep fuel p bt n2 m i' h' k) = .yes := H
    rw [envSK_eq] at H
    obtain ⟨h', H'⟩ := roundK_ex cy k4 k60 k63 H
    rw [fNat_eq] at H'
    exact ih _ _ _ H'
theorem symsK_yes [Sg] {c : Tr AV} {x : Ans} : ∀ (m j : Nat), symsK c x m j = .yes → x = .yes ∧ ∀ q, j ≤ q → q < j + m → c.get (path (3 * q)) = some (.sym (4 * q + 1)) ∧ c.get (path (3 * q + 1)) = some (.sym (4 * q + 2)) ∧ c.get (path (3 * q + 2)) = some (.sym (4 * q + 3)) := by
  intro m
  induction m with
  | zero => exact fun j H => ⟨H, fun q h1 h2 => by omega⟩
  | succ m ih =>
    intro j H
    replace H : (c.getP (path (3 * j)) (.no 257) fun a => c.getP (path (3 * j + 1)) (.no 257) fun b => c.getP (path (3 * j + 2)) (.no 257) fun d => (match a, b, d with
      | .sym a, .sym b, .sym d => cnd (Nat.beq a (4 * j + 1) && Nat.beq b (4 * j + 2) && Nat.beq d (4 * j + 3)) (fNat (Nat.succ j) (symsK c x m)) (.no 258)
      | _, _, _ => .no 259 : Ans)) = .yes := H
    obtain ⟨a, ha, H⟩ := getP_yes H
    obtain ⟨b, hb, H⟩ := getP_yes H
    obtain ⟨d, hd, H⟩ := getP_yes H
    split at H
    · rename_i a b d
      obtain ⟨h1, H⟩ := cnd_yes H
      rw [fNat_eq] at H
      rw [Bool.and_eq_true, Bool.and_eq_true] at h1
      obtain ⟨⟨e1, e2⟩, e3⟩ := h1
      obtain ⟨hx, hr⟩ := ih _ H
      refine ⟨hx, fun q g1 g2 => ?_⟩
      by_cases hq : q = j
      · subst hq
        rw [ha, hb, hd, Nat.eq_of_beq_eq_true e1, Nat.eq_of_beq_eq_true e2, Nat.eq_of_beq_eq_true e3]
        exact ⟨rfl, rfl, rfl⟩
      · exact hr q (by omega) (by omega)
    · cases H
theorem cellsK_yes [Sg] {n : Nat} {c : Tr AV} : ∀ (m j : Nat) (k : List AV → Ans), cellsK n c m j k = .yes → ∃ l, l.length = m ∧ k l = .yes ∧ ∀ q a, l[q]? = some a → c.get (path (j + q)) = some a ∧ (j + q = 2 ∨ lowA1 n a = true) := by
  intro m
  induction m with
  | zero => exact fun j k H => ⟨[], rfl, H, fun q a h => by simp at h⟩
  | succ m ih =>
    intro j k H
    replace H : (c.getP (path j) (.no 267) fun a => cnd (Nat.beq j 2 || lowA1 n a) (fNat (Nat.succ j) fun j' => cellsK n c m j' fun r => k (a :: r)) (.no 268)) = .yes := H
    obtain ⟨a, ha, H⟩ := getP_yes H
    obtain ⟨h1, H⟩ := cnd_yes H
    rw [fNat_eq] at H
    obtain ⟨l, hl, hk, hr⟩ := ih _ _ H
    refine ⟨a :: l, by simp [hl], hk, fun q b hq => ?_⟩
    cases q with
    | zero =>
      injection hq with hq
      subst hq
      refine ⟨ha, ?_⟩
      rw [Bool.or_eq_true] at h1
      rcases h1 with h1 | h1
      · exact .inl (Nat.eq_of_beq_eq_true h1)
      · exact .inr h1
    | succ q =>
      have := hr q b hq
      rw [show j + (q + 1) = Nat.succ j + q by omega]
      exact this
/-- What a loop over nodes leaves. -/
structure IsRes (n2 bt cnt : Nat) (h : Hp) (x : Res) : Prop where
  tree : ∃ c, h.tr.get (path bt) = some (.cells x.ty x.l.length c true x.sz) ∧ ∀ q a, x.l[q]? = some a → c.get (path q) = some a ∧ (q = 2 ∨ lowA1 n2 a = true)
  lo : bt ≤ h.lo
  slice : ∀ a, x.l[2]? = some a → a = .slice x.bg 0 cnt false 0
  bg : ∃ c, h.tr.get (path x.bg) = some (.cells x.e3 (3 * cnt) c false 3) ∧ ∀ q, q < cnt → c.get (path (3 * q)) = some (.sym (4 * q + 1)) ∧ c.get (path (3 * q + 1)) = some (.sym (4 * q + 2)) ∧ c.get (path (3 * q + 2)) = some (.sym (4 * q + 3))
  ge : n2 ≤ x.bg
  lt : x.bg < x.n4
  nx : x.n4 = h.nx
theorem resK2_yes [Sg] {cnt : Nat} {h : Hp} {k : Res → Ans} (H : resK2 n2 bt cnt h k = .yes) : ∃ x, IsRes n2 bt cnt h x ∧ k x = .yes := by
  obtain ⟨t4, n4, low4⟩ := h
  unfold resK2 at H
  obtain ⟨bl, h1, H⟩ := getP_yes H
  split at H
  · rename_i ty m c ex sz
    obtain ⟨h2, H⟩ := cnd_yes H
    rw [Bool.and_eq_true] at h2
    obtain ⟨l, hl, H, hr⟩ := cellsK_yes _ _ _ H
    obtain ⟨s, h3, H⟩ := getP_yes H
    split at H
    · rename_i bg len
      obtain ⟨blg, h4, H⟩ := getP_yes H
      split at H
      · rename_i e3 m3 c3 ex3 sz3
        obtain ⟨h5, H⟩ := cnd_yes H
        simp only [Bool.and_eq_true] at h5
        obtain ⟨⟨⟨⟨⟨g1, g2⟩, g3⟩, g4⟩, g5⟩, g6⟩ := h5
        obtain ⟨H7, hs⟩ := symsK_yes _ _ H
        have e1 : ex3 = false := by simpa using g1
        subst e1
        have e2 := Nat.eq_of_beq_eq_true g2
        have e3' := Nat.eq_of_beq_eq_true g3
        have e4 := Nat.eq_of_beq_eq_true g4
        subst e2 e3' e4
        refine ⟨⟨ty, sz, l, bg, e3, n4⟩, ⟨⟨c, ?_, fun q a hq => ?_⟩, Nat.le_of_ble_eq_true h2.2, fun a ha => ?_, ⟨c3, h4, fun q hq => hs q (Nat.zero_le _) (by omega)⟩, Nat.le_of_ble_eq_true g5, Nat.le_of_ble_eq_true g6, rfl⟩, H7⟩
        · show t4.get (path bt) = some (.cells ty l.length c true sz)
          rw [hl, h1, h2.1]
        · have := hr q a hq
          rwa [Nat.zero_add] at this
        · have := (hr 2 a ha).1
          rw [Nat.zero_add, h3] at this
          injection this with this; exact this.symm
      · cases H
    · cases H
  · cases H
/-- What a loop leaves is the same whatever comes first. -/
theorem sameR_eq [Sg] [Sl] {x y : Res} (h : sameR x y = true) : x = y := by
  obtain ⟨a, b, c, d, e, f⟩ := x
  obtain ⟨a', b', c', d', e', f'⟩ := y
  unfold sameR at h
  simp only [Bool.and_eq_true] at h
  obtain ⟨⟨⟨⟨⟨h1, h2⟩, h3⟩, h4⟩, h5⟩, h6⟩ := h
  rw [Nat.eq_of_beq_eq_true h1, Nat.eq_of_beq_eq_true h2, eqAL_eq h3, Nat.eq_of_beq_eq_true h4, Nat.eq_of_beq_eq_true h5, Nat.eq_of_beq_eq_true h6]
theorem upon_then {o : Oper} {a : Act} {w : World} {next next' : Act → World → Prop} {Q Q' : Exit → Act → World → Prop} (hn : ∀ a w, next a w → next' a w) (hp : ∀ ch w, Q (.panic ch) a w → Q' (.panic ch) a w) (hl : LetsOut Q → LetsOut Q') (h : o.wp P a w next Q) : o.wp P a w next' Q' := by
  unfold Oper.wp at h ⊢
  revert h
  generalize (execOp a.eval o).run P w = r
  intro h
  unfold Oper.upon at h ⊢
  split at h
  · exact hn _ _ h
  · exact hn _ _ h
  · exact hn _ _ h
  · refine h.mono fun e w2 he => ?_
    cases e with
    | returned v => exact hn _ _ he
    | panicked ch => exact hp _ _ he
    | outgrown => exact hl he
  · exact h.mono fun v w2 he => hn _ _ he
  · exact hp _ _ h
  · cases h
theorem wpList_cut {ops : Array Oper} {Q : Exit → Act → World → Prop} {tail : List Oper} : ∀ {l : List Oper} {a : Act} {w : World},
    wpList P ops (fun e a w => match e with | .normal => wpList P ops Q tail a w | e => Q e a w) l a w → wpList P ops Q (l ++ tail) a w
  | [], a, w, h => h
  | o :: l, a, w, h => by
    unfold wpList at h
    rw [List.cons_append]
    unfold wpList
    split at h
    · rename_i hw
      rw [if_pos hw]
      rcases h with h | ⟨h1, h2⟩
      · exact .inl (upon_then (fun a w h => wpList_cut h) (fun ch w h => h) (fun h => h) h)
      · exact .inr ⟨h1, h2⟩
    · rename_i hw
      rw [if_neg hw]
      exact wpList_cut h
end
end Go.Ev
