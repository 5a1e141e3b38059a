import Derived.Lib.Bytealg
import Derived.Lib.MakeNoZero
import Derived.Below
import Derived.Test.YtaklcjnfjchebaaSa13
set_option linter.unusedVariables false
set_option linter.unusedSectionVars false
set_option linter.unusedSimpArgs false
namespace Go.Ev
variable [Sg] [Sl]
open Go.RowKit
variable {P : Program}
def IsExt (P : Program) (f : Nat) (e : Array Value → Sem Value) : Prop :=
  ∃ fn, P.funcs[f]? = some fn ∧ (fn.name == "runtime.NumGoroutine") = false ∧ fn.body.isNone = true ∧ Extern.findNext fn = none ∧ Extern.find fn = some e
theorem IsExt.run {f : Nat} {e : Array Value → Sem Value} (h : IsExt P f e) {args : Array Value} {w w' : World} {u : Value} (he : (e args).run P w = .ok u w') : (callFunc f args).run P w = .ok (.value u) w' := by
  obtain ⟨fn, h1, h2, h3, h4, h5⟩ := h
  rw [run_callFunc_extern h1 h2 h3 h4 h5, he]; rfl
def idxL : List Nat → Nat → Nat → AV
  | [], _, _ => .int .i64 (-1)
  | x :: l, c, i => if Nat.beq x c = true then .nat i else idxL l c (i + 1)
theorem indexN_go (c : Nat) (k : AV → Ans) : ∀ (l : List Nat) (i : Nat), (List.rec (motive := fun _ => Nat → Ans) (fun _ => k (.int .i64 (-1))) (fun x _ ih i => cnd (Nat.beq x c) (k (.nat i)) (fNat (Nat.succ i) ih)) l i : Ans) = k (idxL l c i)
  | [], i => rfl
  | x :: l, i => by
    show cnd (Nat.beq x c) (k (.nat i)) (fNat (Nat.succ i) _) = _
    rw [cnd_eq, fNat_eq]
    unfold idxL
    split
    · rfl
    · exact indexN_go c k l (i + 1)
def cntL : List Nat → Nat → Nat → Nat
  | [], _, n => n
  | x :: l, c, n => if Nat.beq x c = true then cntL l c (n + 1) else cntL l c n
theorem countN_go (c : Nat) (k : Nat → Ans) : ∀ (l : List Nat) (n : Nat), (List.rec (motive := fun _ => Nat → Ans) (fun n => k n) (fun x _ ih n => cnd (Nat.beq x c) (fNat (Nat.succ n) ih) (ih n)) l n : Ans) = k (cntL l c n)
  | [], n => rfl
  | x :: l, n => by
    show cnd (Nat.beq x c) (fNat (Nat.succ n) _) _ = _
    rw [cnd_eq, fNat_eq]
    unfold cntL
    split
    · exact countN_go c k l (n + 1)
    · exact countN_go c k l n
theorem beq_byte {x c : Nat} (hx : x < 256) (hc : c < 256) : (UInt8.ofNat x == UInt8.ofNat c) = Nat.beq x c := by
  by_cases h : x = c
  · subst h; simp
  · rw [show Nat.beq x c = false from by rw [Bool.eq_false_iff]; exact fun hb => h (Nat.eq_of_beq_eq_true hb), beq_eq_false_iff_ne]
    exact fun e => h (ofNat_inj hx hc e)
theorem idxL_con (β : Bt) {c : Nat} (hc : c < 256) : ∀ {l : List Nat} (i : Nat), l.all (· < 256) = true → con β (idxL l c i) = some (.int .i64 (if Lib.indexByte (l.map UInt8.ofNat) (UInt8.ofNat c) = -1 then -1 else Lib.indexByte (l.map UInt8.ofNat) (UInt8.ofNat c) + i))
  | [], i, _ => by simp [idxL, Lib.indexByte, con]
  | x :: l, i, h => by
    rw [List.all_cons, Bool.and_eq_true] at h
    have ih := idxL_con β hc (i + 1) h.2
    have hge := Lib.indexByte_ge (l.map UInt8.ofNat) (UInt8.ofNat c)
    unfold idxL
    rw [List.map_cons]
    unfold Lib.indexByte
    rw [beq_byte (by simpa using h.1) hc]
    by_cases hb : Nat.beq x c = true
    · rw [if_pos hb, if_pos hb]; simp [con]
    · rw [if_neg hb, if_neg hb, ih]
      congr 2
      by_cases h1 : Lib.indexByte (l.map UInt8.ofNat) (UInt8.ofNat c) = -1
      · simp [h1]
      · have h2 : (Lib.indexByte (l.map UInt8.ofNat) (UInt8.ofNat c) == -1) = false := by simpa using h1
        simp only [h2, Bool.false_eq_true, if_false]
        rw [if_neg h1, if_neg (by omega)]
        omega
theorem cntL_eq {c : Nat} (hc : c < 256) : ∀ {l : List Nat} (n : Nat), l.all (· < 256) = true → cntL l c n = n + Lib.countByte (l.map UInt8.ofNat) (UInt8.ofNat c)
  | [], n, _ => by simp [cntL, Lib.countByte]
  | x :: l, n, h => by
    rw [List.all_cons, Bool.and_eq_true] at h
    have ih := fun n => cntL_eq hc (l := l) n h.2
    unfold cntL
    rw [List.map_cons]
    unfold Lib.countByte at ih ⊢
    rw [List.count_cons, beq_byte (by simpa using h.1) hc, ih, ih]
    split <;> omega
theorem ext1_yes {fuel : Nat} {ihc : CallF} {f : FuncId} {xs : List AV} {h : Hp} {k : AV → Hp → Ans} (H : extK P fuel ihc f 1 xs h k = .yes) : ∃ n l c, xs = [.str n l, .u8 c] ∧ c < 256 ∧ k (idxL l c 0) h = .yes := by
  unfold extK at H
  split at H
  · rename_i n l c _
    obtain ⟨hc, H⟩ := cnd_yes H
    exact ⟨n, l, c, rfl, by simpa using hc, (indexN_go c (fun v => k v h) l 0).symm.trans H⟩
  all_goals first | (rename_i h1; cases h1; done) | (cases H; done)
theorem ext2_yes {fuel : Nat} {ihc : CallF} {f : FuncId} {xs : List AV} {h : Hp} {k : AV → Hp → Ans} (H : extK P fuel ihc f 2 xs h k = .yes) : ∃ n l c, xs = [.str n l, .u8 c] ∧ c < 256 ∧ k (.nat (cntL l c 0)) h = .yes := by
  unfold extK at H
  split at H
  · rename_i h1; cases h1
  · rename_i n l c _
    obtain ⟨hc, H⟩ := cnd_yes H
    exact ⟨n, l, c, rfl, by simpa using hc, (countN_go c (fun n => k (.nat n) h) l 0).symm.trans H⟩
  all_goals first | (rename_i h1; cases h1; done) | (cases H; done)
theorem ext3_yes {fuel : Nat} {ihc : CallF} {f : FuncId} {xs : List AV} {h : Hp} {k : AV → Hp → Ans} (H : extK P fuel ihc f 3 xs h k = .yes) : ∃ i m j, xs = [.sym i, .nat m] ∧ Sl.low i m = some j ∧ k (.nat j) h = .yes := by
  unfold extK at H
  split at H
  · rename_i h1; cases h1
  · rename_i h1; cases h1
  · rename_i i m _
    split at H
    · rename_i j hj; exact ⟨i, m, j, rfl, hj, H⟩
    · cases H
  all_goals first | (rename_i h1; cases h1; done) | (cases H; done)
theorem ext4_yes {fuel : Nat} {ihc : CallF} {f : FuncId} {xs : List AV} {h : Hp} {k : AV → Hp → Ans} (H : extK P fuel ihc f 4 xs h k = .yes) : ∃ x, xs = [x] ∧ k x h = .yes := by
  unfold extK at H
  split at H
  case h_4 x _ => exact ⟨_, rfl, H⟩
  all_goals first | (rename_i h1; cases h1; done) | (cases H; done)
theorem ext5_yes {fuel : Nat} {ihc : CallF} {f : FuncId} {xs : List AV} {h : Hp} {k : AV → Hp → Ans} (H : extK P fuel ihc f 5 xs h k = .yes) : ∃ b o n, xs = [.ptr b o] ∧ getK b o 1 h (fun l => nthK 0 l (.no 213) fun v => match v with
    | .nat n => k (.nat n) h
    | _ => .no 214) = .yes ∧ n = 0 := by
  unfold extK at H
  split at H
  case h_5 b o _ => exact ⟨b, o, 0, rfl, H, rfl⟩
  all_goals first | (rename_i h1; cases h1; done) | (cases H; done)
theorem ext6_yes {fuel : Nat} {ihc : CallF} {f : FuncId} {xs : List AV} {h : Hp} {k : AV → Hp → Ans} (H : extK P fuel ihc f 6 xs h k = .yes) : ∃ b o d, xs = [.ptr b o, .nat d] ∧ getK b o 1 h (fun l => nthK 0 l (.no 215) fun v => match v with
    | .nat n => fNat (Nat.add n d) fun m => cnd (Nat.blt m two63) (putK b o [.nat m] h fun h => k (.nat m) h) (.no 216)
    | _ => .no 217) = .yes := by
  unfold extK at H
  split at H
  case h_6 b o d _ => exact ⟨b, o, d, rfl, H⟩
  all_goals first | (rename_i h1; cases h1; done) | (cases H; done)
def LowAt [Sg] [Sl] (P : Program) (f : Nat) : Prop := ∀ i m j, Sl.low i m = some j → ∀ w, ((callFunc f #[Sg.val i, .int .i64 m]).run P w = .ok (.enter f #[Sg.val i, .int .i64 m]) w ∧ Calls P f #[Sg.val i, .int .i64 m] w fun e w' => e = .returned (.int .i64 j) ∧ Below w.heap.size w w')
theorem tabK_yes {c : Tr AV} {x : Ans} : ∀ {l : List AV} {i : Nat}, (List.rec (motive := fun _ => Nat → Ans) (fun _ => x) (fun v _ ih i => c.getP (path i) (.no 240) fun u => cnd (eqA1 u v) (cnd (flatB v) (fNat (Nat.succ i) ih) (.no 239)) (.no 241)) l i : Ans) = .yes → x = .yes ∧ (∀ j v, l[j]? = some v → c.get (path (i + j)) = some v) ∧ ∀ v ∈ l, flatB v = true
  | [], i, h => ⟨h, fun j v hv => by simp at hv, fun v hv => by cases hv⟩
  | v :: l, i, h => by
    obtain ⟨u, h1, H1⟩ := getP_yes h
    obtain ⟨h2, H2⟩ := cnd_yes H1
    obtain ⟨h3, H3⟩ := cnd_yes H2
    rw [fNat_eq] at H3
    obtain ⟨h4, h5, h6⟩ := tabK_yes H3
    clear H1 H2 H3 h
    obtain rfl := eqA1_eq h2
    refine ⟨h4, fun j w hw => ?_, fun w hw => ?_⟩
    · cases j with
      | zero => simp at hw; subst hw; exact h1
      | succ j => have := h5 j w (by simpa using hw); rwa [show i + (j + 1) = i.succ + j by omega]
    · rcases List.mem_cons.1 hw with rfl | hw
      · exact h3
      · exact h6 w hw
def TabsIn (h : Hp) (ts : List (Nat × List AV)) : Prop := ∀ e ∈ ts, (∃ ty c sz, h.tr.get (path e.1) = some (.cells ty e.2.length c true sz) ∧ ∀ j v, e.2[j]? = some v → c.get (path j) = some v) ∧ ∀ v ∈ e.2, flatB v = true
theorem tabsK_yes {ts : List (Nat × List AV)} {h : Hp} {x : Ans} (H : tabsK ts h x = .yes) : x = .yes ∧ TabsIn h ts := by
  obtain ⟨t, n, low⟩ := h
  unfold tabsK at H
  induction ts with
  | nil => exact ⟨H, fun e he => by cases he⟩
  | cons e ts ih =>
    obtain ⟨bl, h1, H⟩ := getP_yes H
    split at H
    · rename_i ty m c ex sz
      obtain ⟨h2, H⟩ := cnd_yes H
      rw [lenK_eq] at H
      obtain ⟨h3, H⟩ := cnd_yes H
      obtain ⟨h4, h5, h6⟩ := tabK_yes H
      obtain ⟨h7, h8⟩ := ih h4
      refine ⟨h7, fun e' he => ?_⟩
      rcases List.mem_cons.1 he with rfl | he
      · refine ⟨⟨ty, c, sz, ?_, fun j v hv => by simpa using h5 j v hv⟩, h6⟩
        rw [show (Hp.mk t n low).tr = t from rfl, h1, h2, Nat.eq_of_beq_eq_true h3]
      · exact h8 e' he
    · cases H
def AwakeAt [Sg] [Sl] (P : Program) (f : Nat) : Prop := ∀ β h w, HR β h w → GlobK P β → TabsIn h Sl.tabs → (callFunc f #[]).run P w = .ok (.enter f #[]) w ∧ Calls P f #[] w fun e w' => e = .returned (.bool true) ∧ Below w.heap.size w w'
theorem ext7_yes {fuel : Nat} {ihc : CallF} {f : FuncId} {xs : List AV} {h : Hp} {k : AV → Hp → Ans} (H : extK P fuel ihc f 7 xs h k = .yes) : xs = [] ∧ tabsK Sl.tabs h (k (.bool true) h) = .yes := by
  unfold extK at H
  split at H
  case h_7 _ => exact ⟨rfl, H⟩
  all_goals first | (rename_i h1; cases h1; done) | (cases H; done)
theorem Stp.of_below {β : Bt} {h : Hp} {w w' : World} (hr : HR β h w) (b : Below w.heap.size w w') : Stp β h w β h w' := by
  have he : Ext w w' := ⟨b.os, b.tape, b.output, b.size, b.block⟩
  refine ⟨⟨fun n x hn => ?_, hr.inj, hr.fresh, hr.low⟩, Nat.le_refl _, Nat.le_refl _, fun _ _ => rfl, fun _ x _ e => ⟨x, e⟩, (fun n c κ hn e => by rw [hr.fresh n hn] at e; cases e), he.kept _ _ _⟩
  obtain ⟨h1, cb, κ, h2, h3⟩ := hr.blk n x hn
  exact ⟨h1, cb, κ, h2, h3.ext he⟩
theorem ext8_yes {fuel : Nat} {ihc : CallF} {f : FuncId} {xs : List AV} {h : Hp} {k : AV → Hp → Ans} (H : extK P fuel ihc f 8 xs h k = .yes) : treeK P fuel ihc f xs h k = .yes := by
  unfold extK at H
  split at H
  case h_8 _ => exact H
  all_goals first | (rename_i h1; cases h1; done) | (cases H; done)
def MnzAt (P : Program) (f : Nat) : Prop := ∃ ps t e, IsExt P f (Extern.BytealgMakeNoZero.makeNoZero ps #[t]) ∧ P.underlying t = some (.slice e) ∧ mnzE P f = some e
theorem ext9_yes {fuel : Nat} {ihc : CallF} {f : FuncId} {xs : List AV} {h : Hp} {k : AV → Hp → Ans} (H : extK P fuel ihc f 9 xs h k = .yes) : ∃ n e, xs = [.nat n] ∧ mnzE P f = some e ∧ n ≤ 281474976710656 ∧ k (.slice h.nx 0 n false 0) (.mk (h.tr.set (path h.nx) (some (.cells e 0 .leaf false 1))) (h.nx + 1) h.lo) = .yes := by
  unfold extK at H
  split at H
  case h_9 n _ =>
    split at H
    · rename_i e t nx low he
      obtain ⟨h1, H1⟩ := cnd_yes H
      rw [setP_eq, fNat_eq] at H1
      exact ⟨n, e, rfl, he, Nat.le_of_ble_eq_true h1, H1⟩
    · cases H
  all_goals first | (rename_i h1; cases h1; done) | (cases H; done)
theorem extOK {X : Nat → Nat} (h : ∀ f c, X f = c + 1 → (c = 0 ∧ IsExt P f Extern.BytealgIndexByte.indexByte) ∨ (c = 1 ∧ IsExt P f Extern.BytealgCount.count) ∨ (c = 2 ∧ LowAt P f) ∨ (c = 3 ∧ IsExt P f Extern.AbiNoEscape.same) ∨ (c = 4 ∧ IsExt P f (Extern.Atomic.loadT (.int .i64))) ∨ (c = 5 ∧ IsExt P f (Extern.Atomic.update (Op.intArith .add) .i64 true)) ∨ (c = 6 ∧ AwakeAt P f) ∨ (c = 7 ∧ TreeAt P f ∧ P.follows .mixedOrders = true) ∨ (c = 8 ∧ MnzAt P f)) : ExtOK P X := by
  intro fuel ihc hih f c hX xs hp k H
  have args : ∀ {β : Bt} {n : Nat} {l : List Nat} {c : Nat} {vs : List Value}, conL β [.str n l, .u8 c] = some vs → vs = [.string (bytesOf l), .int .u8 c] ∧ l.all (· < 256) = true := fun {β n l c vs} hx => by
    obtain ⟨a, us, h1, h2, rfl⟩ := conL_cons hx
    obtain ⟨b, us, h3, h4, rfl⟩ := conL_cons h2
    have := conL_nil h4
    subst this
    obtain ⟨rfl, -, h5⟩ := con_str_inv h1
    rw [con_u8 h3]
    exact ⟨rfl, h5⟩
  rcases h f c hX with ⟨rfl, he⟩ | ⟨rfl, he⟩ | ⟨rfl, he⟩ | ⟨rfl, he⟩ | ⟨rfl, he⟩ | ⟨rfl, he⟩ | ⟨rfl, he⟩ | ⟨rfl, he, hm⟩ | ⟨rfl, he⟩
  · obtain ⟨n, l, c, rfl, hc, H1⟩ := ext1_yes H
    refine ⟨_, _, H1, fun β w vs hr hg hx => .inr ?_⟩
    obtain ⟨rfl, hl⟩ := args hx
    refine ⟨_, w, he.run (Lib.run_indexByteString (bytesOf l) c w), β, _, rfl, .refl hr, ?_⟩
    rw [idxL_con β hc 0 hl]
    have e : (bytesOf l).data.toList = l.map UInt8.ofNat := by simp [bytesOf]
    have e2 : ((c : Int).toNat.toUInt8) = UInt8.ofNat c := rfl
    rw [e, e2]
    congr 2
    split
    · rename_i h1; exact h1.symm
    · simp
  · obtain ⟨n, l, c, rfl, hc, H1⟩ := ext2_yes H
    refine ⟨_, _, H1, fun β w vs hr hg hx => .inr ?_⟩
    obtain ⟨rfl, hl⟩ := args hx
    refine ⟨_, w, he.run (Lib.run_countString (bytesOf l) c w), β, _, rfl, .refl hr, ?_⟩
    have e : (bytesOf l).data.toList = l.map UInt8.ofNat := by simp [bytesOf]
    have e2 : ((c : Int).toNat.toUInt8) = UInt8.ofNat c := rfl
    rw [cntL_eq hc 0 hl, e, e2, Nat.zero_add]; rfl
  · obtain ⟨i, m, j, rfl, hj, H1⟩ := ext3_yes H
    refine ⟨_, _, H1, fun β w vs hr hg hx => .inl ?_⟩
    obtain ⟨a, us, h1, h2, rfl⟩ := conL_cons hx
    obtain ⟨b, us, h3, h4, rfl⟩ := conL_cons h2
    have := conL_nil h4
    subst this
    have e1 : a = Sg.val i := by
      simp only [con] at h1
      split at h1
      · injection h1 with h1; exact h1.symm
      · cases h1
    rw [e1, con_nat h3]
    obtain ⟨h5, h6⟩ := he i m j hj w
    refine ⟨h5, h6.mono fun e w' hp => ?_⟩
    obtain ⟨rfl, hb⟩ := hp
    exact ⟨β, _, rfl, .of_below hr hb, rfl⟩
  · obtain ⟨x, rfl, H1⟩ := ext4_yes H
    refine ⟨_, _, H1, fun β w vs hr hg hx => .inr ?_⟩
    obtain ⟨a, us, h1, h2, rfl⟩ := conL_cons hx
    have := conL_nil h2
    subst this
    exact ⟨_, w, he.run rfl, β, _, rfl, .refl hr, h1⟩
  · obtain ⟨b, o, -, rfl, H1, -⟩ := ext5_yes H
    obtain ⟨l, e, m, c, ex, sz, g1, g2, g3, g4, H1⟩ := getK_yes H1
    obtain ⟨v, hv, H1⟩ := nthK_yes H1
    split at H1
    · rename_i n
      refine ⟨_, _, H1, fun β w vs hr hg hx => .inr ?_⟩
      obtain ⟨a, us, h1, h2, rfl⟩ := conL_cons hx
      have := conL_nil h2
      subst this
      obtain ⟨cb, κ, hβ, rfl⟩ := con_ptr h1
      obtain ⟨cb', κ', vs', q1, q2, q3, q4, q5⟩ := cells_of hr g1 g2 g3 g4
      rw [hβ] at q1; injection q1 with q1; injection q1 with q1 q1'; subst q1
      obtain ⟨u, q6, q7⟩ := conL_get q2 hv
      have hc := q5 0 u q6
      rw [con_nat q7] at hc
      refine ⟨.int .i64 n, w, he.run ?_, β, _, rfl, .refl hr, rfl⟩
      have hdef : Extern.Atomic.loadT (.int .i64) #[.pointer (some ⟨cb, o, none⟩)] = (do Extern.Atomic.read (.int .i64) (← asAddr (.pointer (some ⟨cb, o, none⟩)))) := rfl
      rw [hdef]
      simp [Extern.Atomic.read, asAddr, run_load, show w.cell? ⟨cb, o, none⟩ = some (.int .i64 (n : Int)) from by simpa using hc]
    · cases H1
  · obtain ⟨b, o, d, rfl, H1⟩ := ext6_yes H
    obtain ⟨l, e, m, c, ex, sz, g1, g2, g3, g4, H1⟩ := getK_yes H1
    obtain ⟨v, hv, H1⟩ := nthK_yes H1
    split at H1
    · rename_i n
      rw [fNat_eq] at H1
      obtain ⟨hlt, H1⟩ := cnd_yes H1
      obtain ⟨t', n', low, e', m', c', ex', sz', rfl, p1, p2, H1⟩ := putK_yes H1
      refine ⟨_, _, H1, fun β w vs hr hg hx => .inr ?_⟩
      obtain ⟨a, us, h1, h2, rfl⟩ := conL_cons hx
      obtain ⟨a2, us, h3, h4, rfl⟩ := conL_cons h2
      have := conL_nil h4
      subst this
      obtain ⟨cb, κ, hβ, rfl⟩ := con_ptr h1
      obtain ⟨cb', κ', vs', q1, q2, q3, q4, q5⟩ := cells_of hr g1 g2 g3 g4
      rw [hβ] at q1; injection q1 with q1; injection q1 with q1 q1'; subst q1
      obtain ⟨u, q6, q7⟩ := conL_get q2 hv
      have hc := q5 0 u q6
      rw [con_nat q7] at hc
      rw [con_nat h3]
      have hm : Nat.add n d < two63 := Nat.le_of_ble_eq_true hlt
      obtain ⟨cb2, κ2, f1, f2, f3, f4⟩ := put_stp (vs := [.int .i64 ((Nat.add n d : Nat) : Int)]) hr p1 p2 rfl (by simp [Value.oneCell'])
      rw [hβ] at f1; injection f1 with f1; injection f1 with f1 f1'; subst f1
      have hc' : w.cell? ⟨cb, o, none⟩ = some (.int .i64 (n : Int)) := by simpa using hc
      have hf' : w.frozen? ⟨cb, o, none⟩ = false := by simpa using f3 0 (by simp)
      have hw : IntKind.i64.wrap ((n : Int) + (d : Int)) = ((Nat.add n d : Nat) : Int) := by
        unfold two63 at hm
        show IntKind.i64.wrap _ = (((n + d : Nat)) : Int)
        have hm' : n + d < 9223372036854775808 := hm
        simp [IntKind.wrap, IntKind.bits, IntKind.signed]
        omega
      refine ⟨.int .i64 ((Nat.add n d : Nat) : Int), w.setCells cb o [.int .i64 ((Nat.add n d : Nat) : Int)], he.run ?_, β, _, rfl, f4, rfl⟩
      have hdef : Extern.Atomic.update (Op.intArith .add) .i64 true #[.pointer (some ⟨cb, o, none⟩), .int .i64 d] = (do
          let a ← asAddr (.pointer (some ⟨cb, o, none⟩))
          let old ← Extern.Atomic.read (.int .i64) a
          let new ← Op.intArith .add .i64 (← asInt old) (← asInt (.int .i64 d))
          store a new .atomic
          pure (if true = true then new else old)) := rfl
      rw [hdef]
      simp [Extern.Atomic.read, asAddr, run_load, hc', asInt, asIntOf, Op.intArith, hw, World.setCells]
      rw [run_store P w _ _ _ (by rfl), hc']
      simp [hf']
    · cases H1
  · obtain ⟨rfl, H1⟩ := ext7_yes H
    obtain ⟨H2, ht⟩ := tabsK_yes H1
    refine ⟨_, _, H2, fun β w vs hr hg hx => .inl ?_⟩
    have := conL_nil hx
    subst this
    obtain ⟨h5, h6⟩ := he β hp w hr hg ht
    refine ⟨h5, h6.mono fun e w' hp => ?_⟩
    obtain ⟨rfl, hb⟩ := hp
    exact ⟨β, _, rfl, .of_below hr hb, rfl⟩
  · exact treeK_sound he hm hih (ext8_yes H)
  · obtain ⟨n, e, rfl, hE, hn, H1⟩ := ext9_yes H
    obtain ⟨ps, t, e', hi, ht, hE'⟩ := he
    rw [hE] at hE'; injection hE' with hE'; subst hE'
    refine ⟨_, _, H1, fun β w vs hr hg hx => .inr ?_⟩
    obtain ⟨a, us, h1, h2, rfl⟩ := conL_cons hx
    have := conL_nil h2
    subst this
    rw [con_nat h1]
    obtain ⟨cs, hrun, hge, -⟩ := Lib.run_makeNoZero (P := P) w ps t e ht n hn
    obtain ⟨tr, nx, low⟩ := hp
    have s := Stp.new_block (w' := w.drew.drew.alloc (.cells cs e)) hr (.cells cs e) cs.size (.cells e 0 .leaf false 1) rfl rfl rfl rfl ⟨cs, _, rfl, fun i hi h => by omega, fun i hi => absurd hi (Nat.not_lt_zero _), Nat.zero_le _, (fun h => by cases h), (fun _ => by omega)⟩
    refine ⟨_, _, hi.run hrun, _, _, rfl, s, ?_⟩
    show ((upd β nx w.heap.size cs.size) nx).bind _ = _
    rw [upd_same]
    simp [hge]
end Go.Ev
namespace Go.Ev
variable [Sg] [Sl]
open Go.RowKit
variable {P : Program}
noncomputable def fin (n : Nat) (v : AV) (h : Hp) : Ans := match v, h with
  | .bool true, .mk _ _ low => cnd (Nat.beq low n) .yes (.no 996)
  | .bool false, _ => .no 998
  | _, _ => .no 999
theorem fin_yes {n : Nat} {v : AV} {h : Hp} (H : fin n v h = .yes) : v = .bool true ∧ h.lo = n := by
  unfold fin at H
  split at H
  · obtain ⟨h1, -⟩ := cnd_yes H
    exact ⟨rfl, Nat.eq_of_beq_eq_true h1⟩
  · cases H
  · cases H
structure Runs (P : Program) (X : Nat → Nat) : Prop where
  mixed : P.follows .mixedOrders = true
  names : ∀ (f : Nat) fn, P.funcs[f]? = some fn → fn.name ≠ "runtime.NumGoroutine"
  ext : ExtOK P X
theorem Runs.sound {X : Nat → Nat} (r : Runs P X) (fuel d : Nat) : CallSound P (callK P X fuel d) :=
  callK_sound r.ext r.names (fun c hc N keep => regOK r.mixed c hc N keep) fuel d
theorem Ext.below {w w' : World} (h : Ext w w') : Below w.heap.size w w' := ⟨h.os, h.tape, h.output, h.size, h.block⟩
theorem Runs.top {X : Nat → Nat} (r : Runs P X) {fuel d f : Nat} {fn : Func} {c : Code} (hf : P.funcs[f]? = some fn) (hb : fn.body = some c) {xs : List AV} {vs : List Value} {h0 : Hp} {β : Bt} {w : World}
    (hr : HR β h0 w) (hg : GlobK P β) (hx : conL β xs = some vs) (H : callK P X fuel d f xs h0 (fin h0.nx) = .yes) : Calls P f vs.toArray w fun e w' => e = .returned (.bool true) ∧ Below w.heap.size w w' := by
  obtain ⟨v, h', h1, h2⟩ := r.sound fuel d f xs h0 _ H
  obtain ⟨rfl, hlo⟩ := fin_yes h1
  rcases h2 β w vs hr hg hx with ⟨-, hc⟩ | ⟨u, w', hc, -⟩
  · refine hc.mono fun e w' he => ?_
    obtain ⟨β', u, rfl, s, hu⟩ := he
    rw [con_bool hu]
    exact ⟨rfl, (s.kept.ext fun b hb => hr.fresh b (by omega)).below⟩
  · exfalso
    unfold callFunc at hc
    simp only [Sem.run_bind, run_program, Result.andThen_ok, hf] at hc
    have hn : (fn.name == "runtime.NumGoroutine") = false := by simpa using r.names f fn hf
    rw [hn] at hc
    simp [hb] at hc
def globB (n : Nat) : Bt := fun b => if b < n then some (b, 0) else none
theorem glob0 (w : World) (n : Nat) : HR (globB n) (.mk .leaf n n) w := by
  have hb : ∀ b x, (Hp.mk .leaf n n).tr.get (path b) = some x → False := fun b x hb => by
    rw [show (Hp.mk .leaf n n).tr = .leaf from rfl, get_leaf] at hb
    cases hb
  exact ⟨fun b x h => (hb b x h).elim, fun b b' x x' cb κ κ' h => (hb b x h).elim, fun b hb => if_neg (by have : n ≤ b := hb; omega), Nat.le_refl _⟩
theorem globK (P : Program) {n : Nat} (h : P.globals.size ≤ n) : GlobK P (globB n) := fun g hg => ⟨0, if_pos (by omega)⟩
theorem Runs.plain {X : Nat → Nat} (r : Runs P X) {fuel d f n : Nat} {fn : Func} {c : Code} (hf : P.funcs[f]? = some fn) (hb : fn.body = some c) (hn : P.globals.size ≤ n) {xs : List AV} {vs : List Value} (hx : conL (globB n) xs = some vs)
    (H : callK P X fuel d f xs (.mk .leaf n n) (fin n) = .yes) (w : World) : Calls P f vs.toArray w fun e w' => e = .returned (.bool true) ∧ Below w.heap.size w w' :=
  r.top hf hb (glob0 w n) (globK P hn) hx H
end Go.Ev
namespace Go.Ev
variable [Sg] [Sl]
open Go.RowKit
variable {P : Program}
structure Tb where
  g : Nat
  e : TypeId
  l : List AV
  esz : Nat
noncomputable def Tb.blk (t : Tb) : Blk := .cells t.e t.l.length (putL t.l 0 .leaf) true t.esz
noncomputable def tabT : List Tb → Tr Blk
  | [] => .leaf
  | t :: ts => (tabT ts).set (path t.g) (some t.blk)
def Tb.At (n : Nat) (w : World) (t : Tb) : Prop := t.g < n ∧ ∃ vs, conL (globB n) t.l = some vs ∧ (∀ u ∈ vs, u.oneCell' = true) ∧ w.heap[t.g]? = some (.cells vs.toArray t.e (0, 0))
theorem tabT_get : ∀ {ts : List Tb} {b : Nat} {x : Blk}, (tabT ts).get (path b) = some x → ∃ t ∈ ts, t.g = b ∧ x = t.blk
  | [], b, x, h => by rw [show tabT [] = .leaf from rfl, get_leaf] at h; cases h
  | t :: ts, b, x, h => by
    rw [show tabT (t :: ts) = (tabT ts).set (path t.g) (some t.blk) from rfl, get_set] at h
    split at h
    · rename_i hp
      injection h with h
      exact ⟨t, List.mem_cons_self .., (path_inj hp).symm, h.symm⟩
    · obtain ⟨t', h1, h2⟩ := tabT_get h
      exact ⟨t', List.mem_cons_of_mem _ h1, h2⟩
theorem globT {w : World} {n : Nat} {ts : List Tb} (h : ∀ t ∈ ts, t.At n w) : HR (globB n) (.mk (tabT ts) n n) w := by
  refine ⟨fun b x hb => ?_, fun b b' x x' c κ κ' hb hb' e e' => ?_, fun b hb => if_neg (by have : n ≤ b := hb; omega), Nat.le_refl _⟩
  · obtain ⟨t, h1, rfl, rfl⟩ := tabT_get hb
    obtain ⟨h2, vs, h3, h4, h5⟩ := h t h1
    have hlen := conL_len h3
    refine ⟨h2, t.g, 0, if_pos h2, vs.toArray, (0, 0), h5, fun i _ hi => by omega, fun i hi => ?_, by simp; omega, fun _ => by simp; omega, fun h => by cases h⟩
    obtain ⟨av, hav⟩ : ∃ av, t.l[i]? = some av := ⟨_, List.getElem?_eq_getElem hi⟩
    obtain ⟨u, hu, hc⟩ := conL_get h3 hav
    refine ⟨av, u, ?_, by simpa using hu, hc, h4 u (List.mem_of_getElem? hu)⟩
    rw [get_putL, if_pos ⟨Nat.zero_le _, by omega⟩, Nat.sub_zero]; exact hav
  · unfold globB at e e'
    split at e
    · split at e'
      · injection e with e; injection e' with e'
        injection e with e1 _; injection e' with e2 _
        rw [e1, e2]
      · cases e'
    · cases e
theorem Runs.tabs {X : Nat → Nat} (r : Runs P X) {fuel d f n : Nat} {fn : Func} {c : Code} (hf : P.funcs[f]? = some fn) (hb : fn.body = some c) (hn : P.globals.size ≤ n) {xs : List AV} {vs : List Value} (hx : conL (globB n) xs = some vs) {w : World} {ts : List Tb} (ht : ∀ t ∈ ts, t.At n w)
    (H : callK P X fuel d f xs (.mk (tabT ts) n n) (fin n) = .yes) : Calls P f vs.toArray w fun e w' => e = .returned (.bool true) ∧ Below w.heap.size w w' :=
  r.top hf hb (globT ht) (globK P hn) hx H
theorem awakeAt_of {X : Nat → Nat} (r : Runs P X) {fuel d f n : Nat} {fn : Func} {c : Code} (hf : P.funcs[f]? = some fn) (hb : fn.body = some c) (hn : P.globals.size ≤ n) (hlt : ∀ e ∈ Sl.tabs, e.1 < n)
    (H : ∀ tys : Nat → TypeId, callK P X fuel d f [] (.mk (tabT (Sl.tabs.map fun e => ⟨e.1, tys e.1, e.2, 1⟩)) n n) (fin n) = .yes) : AwakeAt P f := by
  intro β h w hr hg ht
  have hty : ∃ tys : Nat → TypeId, ∀ e ∈ Sl.tabs, ∃ c sz, h.tr.get (path e.1) = some (.cells (tys e.1) e.2.length c true sz) ∧ ∀ j v, e.2[j]? = some v → c.get (path j) = some v := by
    refine ⟨fun g => match h.tr.get (path g) with | some (.cells ty _ _ _ _) => ty | _ => 0, fun e he => ?_⟩
    obtain ⟨⟨ty, c, sz, h1, h2⟩, -⟩ := ht e he
    refine ⟨c, sz, ?_, h2⟩
    dsimp only
    rw [h1]
  obtain ⟨tys, hty⟩ := hty
  have hb' : ∀ b x, (tabT (Sl.tabs.map fun e => (⟨e.1, tys e.1, e.2, 1⟩ : Tb))).get (path b) = some x → ∃ e ∈ Sl.tabs, e.1 = b ∧ x = Tb.blk ⟨e.1, tys e.1, e.2, 1⟩ := fun b x hx => by
    obtain ⟨t, h1, h2, h3⟩ := tabT_get hx
    obtain ⟨e, he, rfl⟩ := List.mem_map.1 h1
    exact ⟨e, he, h2, h3⟩
  have hr2 : HR (restr β n) (.mk (tabT (Sl.tabs.map fun e => ⟨e.1, tys e.1, e.2, 1⟩)) n n) w := by
    refine ⟨fun b x hb => ?_, fun b b' x x' c κ κ' hb hb2 e e' => ?_, fun b hb => restr_ge hb, Nat.le_refl _⟩
    · obtain ⟨e, he, rfl, rfl⟩ := hb' b x hb
      obtain ⟨c, sz, h1, h2⟩ := hty e he
      obtain ⟨-, cb, κ, g1, cs, fz, g2, g3, g4, g5, g6, -⟩ := hr.blk e.1 _ h1
      refine ⟨hlt e he, cb, κ, by rw [restr_lt (hlt e he)]; exact g1, cs, fz, g2, g3, fun i hi => ?_, g5, g6, fun h => by cases h⟩
      obtain ⟨av, u, p1, p2, p3, p4⟩ := g4 i hi
      have hav : e.2[i]? = some av := by
        have hi' : i < e.2.length := hi
        have := h2 i _ (List.getElem?_eq_getElem hi')
        rw [this] at p1; injection p1 with p1; rw [← p1]; exact List.getElem?_eq_getElem hi'
      refine ⟨av, u, ?_, p2, ?_, p4⟩
      · rw [get_putL, if_pos ⟨Nat.zero_le _, by omega⟩, Nat.sub_zero]; exact hav
      · rw [flat_con ((ht e he).2 av (List.mem_of_getElem? hav)) (restr β n) β]; exact p3
    · obtain ⟨e1, he1, rfl, -⟩ := hb' b x hb
      obtain ⟨e2, he2, rfl, -⟩ := hb' b' x' hb2
      obtain ⟨c1, sz1, h1, -⟩ := hty e1 he1
      obtain ⟨c2, sz2, h2, -⟩ := hty e2 he2
      exact hr.inj _ _ _ _ _ _ _ h1 h2 (restr_some e).2 (restr_some e').2
  have hg2 : GlobK P (restr β n) := fun g hlt => by
    obtain ⟨κ, e⟩ := hg g hlt
    exact ⟨κ, by rw [restr_lt (by omega)]; exact e⟩
  refine ⟨?_, r.top (vs := []) hf hb hr2 hg2 rfl (H tys)⟩
  unfold callFunc
  simp only [Sem.run_bind, run_program, Result.andThen_ok, hf]
  have hnn : (fn.name == "runtime.NumGoroutine") = false := by simpa using r.names f fn hf
  rw [hnn]
  simp [hb]
end Go.Ev
