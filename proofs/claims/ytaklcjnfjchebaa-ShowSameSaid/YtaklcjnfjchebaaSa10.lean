import Derived.Lib.Builder
import Derived.Test.YtaklcjnfjchebaaSa9
set_option linter.unusedVariables false
set_option linter.unusedSectionVars false
set_option linter.unusedSimpArgs false
namespace Go.Ev
variable [Sg]
open Go.RowKit
variable {P : Program}
def BinHolds (P : Program) (op : BinOp) (t : TypeId) (x y : AV) (v : AV) : Prop :=
  ∀ β X Y a b w, con β x = some a → con β y = some b → ∃ u, (binSem op t X Y a b).run P w = .ok u w ∧ con β v = some u
theorem BinHolds.op {op : BinOp} {t : TypeId} {x y v : AV} (H : BinHolds P op t x y v) {X Y : Operand} {yt : TypeId} {o : Oper} (ho : o.op = .binOp op t X Y yt) (h : Hp) : OpHolds P o [x, y] h v h := by
  refine .pure fun β w a hx => ?_
  rw [ho] at hx
  obtain ⟨hx, hy⟩ := conL2 hx
  obtain ⟨u, h1, h2⟩ := H β X Y _ _ w hx hy
  exact ⟨u, exec_bin op t X Y yt o ho a w h1, h2⟩
theorem bin_int (op : BinOp) (t : TypeId) (X Y : Operand) (k : IntKind) (a b : Int) (w : World) (h1 : op ≠ .shl) (h2 : op ≠ .shr) : (binSem op t X Y (.int k a) (.int k b)).run P w =
    (match op with
    | .add | .sub | .mul => Op.intArith op k a b
    | .quo | .rem => Op.intDiv op k a b
    | .and | .or | .xor | .andNot => Op.intBits op k a b
    | _ => Op.intCmp op a b).run P w := by
  cases op <;> first | exact absurd rfl h1 | exact absurd rfl h2 | (simp [binSem, eqGuard, Go.binOp])
theorem bin_str (op : BinOp) (t : TypeId) (X Y : Operand) (a b : ByteArray) (w : World) : (binSem op t X Y (.string a) (.string b)).run P w = (Op.stringOp op a b).run P w := by
  cases op <;> simp [binSem, eqGuard, Go.binOp]
theorem bool_eq_nat (a b : Nat) : (((a : Int) == (b : Int))) = Nat.beq a b := by
  rw [Bool.eq_iff_iff, beq_iff_eq, Nat.beq_eq]; omega
theorem strK_add {n : Nat} {l : List Nat} {m : Nat} {r : List Nat} {k : AV → Ans} (t : TypeId) (h : strK .add n l m r k = .yes) : ∃ v, k v = .yes ∧ BinHolds P .add t (.str n l) (.str m r) v := by
  unfold strK at h
  rw [fNat_eq] at h
  obtain ⟨h1, h⟩ := cnd_yes h
  rw [catN_eq] at h
  refine ⟨_, h, fun β X Y a b w ha hb => ?_⟩
  obtain ⟨rfl, h2, h3⟩ := con_str_inv ha
  obtain ⟨rfl, h4, h5⟩ := con_str_inv hb
  have h1' : n + m < 9223372036854775808 := by simpa using h1
  refine ⟨.string (bytesOf l ++ bytesOf r), ?_, ?_⟩
  · rw [bin_str]
    unfold Op.stringOp
    simp only [bytesOf_size]
    rw [if_neg (by simp [IntKind.max, IntKind.bits, IntKind.signed]; omega)]
    rfl
  · rw [bytesOf_append]
    exact con_str_mk (by simp; omega) (by rw [List.all_append, h3, h5]; rfl)
theorem gen2_yes {op : BinOp} {t : TypeId} {x y : AV} {h : Hp} {k : AK} (H : gen2 P op t x y h k = .yes) : ∃ v, k v h = .yes ∧ BinHolds P op t x y v := by
  obtain ⟨v, h1, h2⟩ := genK_yes H
  exact ⟨v, h1, fun β X Y a b w ha hb => h2 β X Y a b w ha hb⟩
theorem con_nat {β : Bt} {n : Nat} {v : Value} (h : con β (.nat n) = some v) : v = .int .i64 n := by simp only [con] at h; injection h with h; exact h.symm
theorem con_u8 {β : Bt} {n : Nat} {v : Value} (h : con β (.u8 n) = some v) : v = .int .u8 n := by simp only [con] at h; injection h with h; exact h.symm
theorem addK_yes {t : TypeId} {x y : AV} {h : Hp} {k : AK} (H : addK P t x y h k = .yes) : ∃ v, k v h = .yes ∧ BinHolds P .add t x y v := by
  unfold addK at H
  rcases cas_yes H with ⟨a, rfl, G⟩ | ⟨a, rfl, G⟩ | ⟨n, l, rfl, G⟩ | G
  · skip
    rcases cas_yes G with ⟨b, rfl, H⟩ | ⟨b, rfl, H⟩ | ⟨n, l, rfl, H⟩ | H
    · simp only [fNat_eq] at H
      obtain ⟨h1, H⟩ := cnd_yes H
      have h1' : a + b < 9223372036854775808 := by simpa [two63] using h1
      refine ⟨_, H, fun β X Y u v w hu hv => ?_⟩
      rw [con_nat hu, con_nat hv, bin_int _ _ _ _ _ _ _ _ (by decide) (by decide)]
      refine ⟨.int .i64 ((a + b : Nat) : Int), ?_, rfl⟩
      simp only [Op.intArith, Sem.run_pure]
      rw [show ((a : Int) + (b : Int)) = ((a + b : Nat) : Int) by omega, i64_lit h1']
    · cases H
    · cases H
    · exact gen2_yes H
  · exact gen2_yes G
  · skip
    rcases cas_yes G with ⟨b, rfl, H⟩ | ⟨b, rfl, H⟩ | ⟨m, r, rfl, H⟩ | H
    · cases H
    · cases H
    · exact strK_add (k := fun v => k v h) t H
    · cases H
  · exact gen2_yes G
theorem subK_yes {t : TypeId} {x y : AV} {h : Hp} {k : AK} (H : subK P t x y h k = .yes) : ∃ v, k v h = .yes ∧ BinHolds P .sub t x y v := by
  unfold subK at H
  rcases cas_yes H with ⟨a, rfl, G⟩ | ⟨a, rfl, G⟩ | ⟨n, l, rfl, G⟩ | G
  · skip
    rcases cas_yes G with ⟨b, rfl, H⟩ | ⟨b, rfl, H⟩ | ⟨n, l, rfl, H⟩ | H
    · simp only [cnd_eq (Nat.ble b a)] at H
      split at H
      · rename_i hb
        have hb' : b ≤ a := by simpa using hb
        simp only [fNat_eq] at H
        obtain ⟨h1, H⟩ := cnd_yes H
        have hs : a - b < 9223372036854775808 := by simpa [two63] using h1
        refine ⟨_, H, fun β X Y u v w hu hv => ?_⟩
        rw [con_nat hu, con_nat hv, bin_int _ _ _ _ _ _ _ _ (by decide) (by decide)]
        refine ⟨.int .i64 ((a - b : Nat) : Int), ?_, rfl⟩
        simp only [Op.intArith, Sem.run_pure]
        rw [show ((a : Int) - (b : Int)) = ((a - b : Nat) : Int) by omega, i64_lit hs]
      · exact gen2_yes H
    · cases H
    · cases H
    · exact gen2_yes H
  · exact gen2_yes G
  · cases G
  · exact gen2_yes G
theorem mulK_yes {t : TypeId} {x y : AV} {h : Hp} {k : AK} (H : mulK P t x y h k = .yes) : ∃ v, k v h = .yes ∧ BinHolds P .mul t x y v := by
  unfold mulK at H
  rcases cas_yes H with ⟨a, rfl, G⟩ | ⟨a, rfl, G⟩ | ⟨n, l, rfl, G⟩ | G
  · skip
    rcases cas_yes G with ⟨b, rfl, H⟩ | ⟨b, rfl, H⟩ | ⟨n, l, rfl, H⟩ | H
    · simp only [fNat_eq] at H
      obtain ⟨h1, H⟩ := cnd_yes H
      have h1' : a * b < 9223372036854775808 := by simpa [two63] using h1
      refine ⟨_, H, fun β X Y u v w hu hv => ?_⟩
      rw [con_nat hu, con_nat hv, bin_int _ _ _ _ _ _ _ _ (by decide) (by decide)]
      refine ⟨.int .i64 ((a * b : Nat) : Int), ?_, rfl⟩
      simp only [Op.intArith, Sem.run_pure]
      rw [show ((a : Int) * (b : Int)) = ((a * b : Nat) : Int) by simp, i64_lit h1']
    · cases H
    · cases H
    · exact gen2_yes H
  · exact gen2_yes G
  · cases G
  · exact gen2_yes G
def CmpHolds (P : Program) (op : BinOp) (t : TypeId) (x y : AV) (r : Bool) : Prop :=
  ∀ β X Y a b w, con β x = some a → con β y = some b → (binSem op t X Y a b).run P w = .ok (.bool r) w
theorem CmpHolds.bin {op : BinOp} {t : TypeId} {x y : AV} {r : Bool} (H : CmpHolds P op t x y r) : BinHolds P op t x y (.bool r) :=
  fun β X Y a b w ha hb => ⟨_, H β X Y a b w ha hb, rfl⟩
theorem cmpK_yes {num : Nat → Nat → Bool} {str : List Nat → List Nat → (Bool → Ans) → Ans} {strB : List Nat → List Nat → Bool} (hs : ∀ l m k, str l m k = k (strB l m)) {other : (Bool → Ans) → Ans} {x y : AV} {k : Bool → Ans} (H : cmpK num str other x y k = .yes) :
    (∃ a b, x = .nat a ∧ y = .nat b ∧ k (num a b) = .yes) ∨ (∃ a b, x = .u8 a ∧ y = .u8 b ∧ k (num a b) = .yes) ∨ (∃ n l m r, x = .str n l ∧ y = .str m r ∧ k (strB l r) = .yes) ∨ other k = .yes := by
  unfold cmpK at H
  rcases cas_yes H with ⟨a, rfl, G⟩ | ⟨a, rfl, G⟩ | ⟨n, l, rfl, G⟩ | G
  · skip
    rcases cas_yes G with ⟨b, rfl, H⟩ | ⟨b, rfl, H⟩ | ⟨n, l, rfl, H⟩ | H
    · exact .inl ⟨a, b, rfl, rfl, H⟩
    · cases H
    · cases H
    · exact .inr (.inr (.inr H))
  · skip
    rcases cas_yes G with ⟨b, rfl, H⟩ | ⟨b, rfl, H⟩ | ⟨n, l, rfl, H⟩ | H
    · cases H
    · exact .inr (.inl ⟨a, b, rfl, rfl, H⟩)
    · cases H
    · exact .inr (.inr (.inr H))
  · skip
    rcases cas_yes G with ⟨b, rfl, H⟩ | ⟨b, rfl, H⟩ | ⟨m, r, rfl, H⟩ | H
    · cases H
    · cases H
    · simp only [hs] at H; exact .inr (.inr (.inl ⟨n, l, m, r, rfl, rfl, H⟩))
    · cases H
  · exact .inr (.inr (.inr G))
theorem boolTo_eq (h : Hp) (k : AK) (b : Bool) : boolTo h k b = k (.bool b) h := by cases b <;> rfl
theorem notTo_eq (h : Hp) (k : AK) (b : Bool) : notTo h k b = k (.bool !b) h := by cases b <;> rfl
theorem cmp_nat {op : BinOp} {t : TypeId} {a b : Nat} {q : IntKind} {r : Bool} (h1 : op ≠ .shl) (h2 : op ≠ .shr) (h : ∀ w, (match op with
    | .add | .sub | .mul => Op.intArith op q a b
    | .quo | .rem => Op.intDiv op q a b
    | .and | .or | .xor | .andNot => Op.intBits op q a b
    | _ => Op.intCmp op a b).run P w = .ok (.bool r) w) {x y : AV} (hx : ∀ β v, con β x = some v → v = .int q a) (hy : ∀ β v, con β y = some v → v = .int q b) : CmpHolds P op t x y r := by
  intro β X Y u v w hu hv
  rw [hx β u hu, hy β v hv, bin_int _ _ _ _ _ _ _ _ h1 h2]
  exact h w
theorem cmp_str {op : BinOp} {t : TypeId} {n m : Nat} {l r : List Nat} {b : Bool} (h : l.all (· < 256) = true → r.all (· < 256) = true → ∀ w, (Op.stringOp op (bytesOf l) (bytesOf r)).run P w = .ok (.bool b) w) : CmpHolds P op t (.str n l) (.str m r) b := by
  intro β X Y u v w hu hv
  obtain ⟨rfl, -, h3⟩ := con_str_inv hu
  obtain ⟨rfl, -, h5⟩ := con_str_inv hv
  rw [bin_str]
  exact h h3 h5 w
theorem genB_cmp {op : BinOp} {t : TypeId} {x y : AV} {k : Bool → Ans} (h : genB P op t x y k = .yes) : ∃ r, k r = .yes ∧ CmpHolds P op t x y r := by
  obtain ⟨r, h1, h2⟩ := genB_yes h
  exact ⟨r, h1, fun β X Y a b w ha hb => h2 β X Y a b w ha hb⟩
theorem lss_nat (a b : Nat) : decide ((a : Int) < (b : Int)) = Nat.blt a b := by
  rw [Bool.eq_iff_iff, decide_eq_true_eq, Nat.blt_eq]; omega
theorem con_raw {β : Bt} {u v : Value} (h : con β (.raw u) = some v) : v = u ∧ u.oneCell' = true := by
  unfold con at h
  split at h
  · rename_i hc; injection h with h; exact ⟨h.symm, hc⟩
  · cases h
theorem con_ptr {β : Bt} {b off : Nat} {v : Value} (h : con β (.ptr b off) = some v) : ∃ c κ, β b = some (c, κ) ∧ v = .pointer (some ⟨c, off, none⟩) := by
  simp only [con, Option.map_eq_some_iff] at h
  obtain ⟨⟨c, κ⟩, h1, h2⟩ := h
  exact ⟨c, κ, h1, h2.symm⟩
theorem con_slice' {β : Bt} {b off n d : Nat} {ex : Bool} {v : Value} (h : con β (.slice b off n ex d) = some v) : ∃ c κ, β b = some (c, κ) ∧ v = .slice (some ⟨c, off, none⟩) n (if ex = true then d else κ - d) ∧ (ex = true ∨ d + n ≤ κ) := by
  simp only [con, Option.bind_eq_some_iff] at h
  obtain ⟨⟨c, κ⟩, h1, h2⟩ := h
  split at h2
  · rename_i hc; injection h2 with h2; exact ⟨c, κ, h1, h2.symm, hc⟩
  · cases h2
theorem con_slice {β : Bt} {b off n d : Nat} {ex : Bool} {v : Value} (h : con β (.slice b off n ex d) = some v) : ∃ c κ, β b = some (c, κ) ∧ v = .slice (some ⟨c, off, none⟩) n (if ex = true then d else κ - d) := by
  obtain ⟨c, κ, h1, h2, -⟩ := con_slice' h
  exact ⟨c, κ, h1, h2⟩
theorem con_slice_mk {β : Bt} {b off n d c κ : Nat} {ex : Bool} (h : β b = some (c, κ)) (h2 : ex = true ∨ d + n ≤ κ) : con β (.slice b off n ex d) = some (.slice (some ⟨c, off, none⟩) n (if ex = true then d else κ - d)) := by
  simp only [con, h, Option.bind_some]; rw [if_pos h2]
theorem con_map {β : Bt} {b : Nat} {v : Value} (h : con β (.map b) = some v) : ∃ c κ, β b = some (c, κ) ∧ v = .map (some c) := by
  simp only [con, Option.map_eq_some_iff] at h
  obtain ⟨⟨c, κ⟩, h1, h2⟩ := h
  exact ⟨c, κ, h1, h2.symm⟩
theorem con_agg {β : Bt} {l : List AV} {v : Value} (h : con β (.agg l) = some v) : ∃ vs, conL β l = some vs ∧ v = .agg vs.toArray ∧ ∀ u ∈ vs, u.oneCell' = true := by
  simp only [con, Option.bind_eq_some_iff] at h
  obtain ⟨vs, h1, h2⟩ := h
  split at h2
  · rename_i hc; injection h2 with h2; exact ⟨vs, h1, h2.symm, List.all_eq_true.1 hc⟩
  · cases h2
theorem con_agg_mk {β : Bt} {l : List AV} {vs : List Value} (h : conL β l = some vs) (h1 : ∀ u ∈ vs, u.oneCell' = true) : con β (.agg l) = some (.agg vs.toArray) := by
  simp only [con, h, Option.bind_some]; rw [if_pos (List.all_eq_true.2 h1)]
theorem con_tup {β : Bt} {l : List AV} {v : Value} (h : con β (.tup l) = some v) : ∃ vs, conL β l = some vs ∧ v = .tuple vs.toArray := by
  simp only [con, Option.map_eq_some_iff] at h
  obtain ⟨vs, h1, h2⟩ := h
  exact ⟨vs, h1, h2.symm⟩
theorem con_fn {β : Bt} {f : Fn} {a b : List AV} {v : Value} (h : con β (.fn f a b) = some v) : ∃ x y, conL β a = some x ∧ conL β b = some y ∧ v = .func f x.toArray y.toArray := by
  simp only [con, Option.bind_eq_some_iff, Option.map_eq_some_iff] at h
  obtain ⟨x, hx, y, hy, hv⟩ := h
  exact ⟨x, y, hx, hy, hv.symm⟩
theorem con_iface {β : Bt} {t : TypeId} {x : AV} {v : Value} (h : con β (.iface t x) = some v) : ∃ u, con β x = some u ∧ v = .iface t u := by
  simp only [con, Option.map_eq_some_iff] at h
  obtain ⟨u, hu, hv⟩ := h
  exact ⟨u, hu, hv.symm⟩
theorem con_bool {β : Bt} {b : Bool} {v : Value} (h : con β (.bool b) = some v) : v = .bool b := by simp only [con] at h; injection h with h; exact h.symm
theorem con_int {β : Bt} {q : IntKind} {z : Int} {v : Value} (h : con β (.int q z) = some v) : v = .int q z := by simp only [con] at h; injection h with h; exact h.symm
def NilV (q : Nat) (r : Bool) (v : Value) : Prop :=
  (q = 0 ∧ r = true ∧ v = .pointer none) ∨ (q = 1 ∧ r = true ∧ ∃ n c, v = .slice none n c) ∨ (q = 2 ∧ r = true ∧ v = .map none) ∨ (q = 3 ∧ r = true ∧ v = .nilFunc) ∨
  (q = 0 ∧ r = false ∧ ∃ a, v = .pointer (some a)) ∨ (q = 1 ∧ r = false ∧ ∃ a n c, v = .slice (some a) n c) ∨ (q = 2 ∧ r = false ∧ ∃ m, v = .map (some m)) ∨ (q = 3 ∧ r = false ∧ ∃ f x y, v = .func f x y)
theorem isNil_yes {x : AV} {k : Nat → Bool → Ans} (h : isNil x k = .yes) : ∃ q r, k q r = .yes ∧ ∀ β v, con β x = some v → NilV q r v := by
  unfold isNil at h
  split at h
  all_goals (first | cases h | skip)
  all_goals (refine ⟨_, _, h, fun β v hv => ?_⟩)
  · rw [(con_raw hv).1]; simp [NilV]
  · rw [(con_raw hv).1]; simp [NilV]
  · rw [(con_raw hv).1]; simp [NilV]
  · rw [(con_raw hv).1]; simp [NilV]
  · obtain ⟨c, κ, _, rfl⟩ := con_ptr hv; simp [NilV]
  · obtain ⟨c, κ, _, rfl⟩ := con_slice hv; simp [NilV]
  · obtain ⟨c, κ, _, rfl⟩ := con_map hv; simp [NilV]
  · obtain ⟨a, b, _, _, rfl⟩ := con_fn hv; simp [NilV]
theorem nilOf_yes {q : Nat} {x y : AV} {k : Bool → Ans} (h : nilOf q x y k = .yes) : ∃ r, k r = .yes ∧ ∀ β a b, con β x = some a → con β y = some b → ∃ r1 r2, NilV q r1 a ∧ NilV q r2 b ∧ (r1 = true ∨ r2 = true) ∧ r = (r1 && r2) := by
  unfold nilOf at h
  obtain ⟨i, r1, g1, h1⟩ := isNil_yes h
  obtain ⟨j, r2, g2, h2⟩ := isNil_yes g1
  obtain ⟨h3, g3⟩ := cnd_yes g2
  obtain ⟨h4, g4⟩ := cnd_yes g3
  have e3 := Nat.eq_of_beq_eq_true h3
  have e4 := Nat.eq_of_beq_eq_true h4
  rw [e3] at h1
  rw [e4] at h2
  cases r1 with
  | true => exact ⟨r2, g4, fun β a b ha hb => ⟨true, r2, h1 β a ha, h2 β b hb, .inl rfl, by simp⟩⟩
  | false =>
    cases r2 with
    | false => cases g4
    | true => exact ⟨false, g4, fun β a b ha hb => ⟨false, true, h1 β a ha, h2 β b hb, .inr rfl, rfl⟩⟩
theorem run_eql {t : TypeId} {X Y : Operand} {a b : Value} {w : World} {r : Bool} (h1 : ∀ u, eqGuard .eql t X Y a b = u → u = Pure.pure ()) (h2 : Go.binOp .eql t a b = (do pure (.bool (← Op.equal t a b)))) (h : (Op.equalIn (9999 + 1) t a b).run P w = .ok r w) :
    (binSem .eql t X Y a b).run P w = .ok (.bool r) w := by
  have e : (Op.equal t a b).run P w = .ok r w := h
  unfold binSem
  rw [h1 _ rfl, h2]
  simp only [Sem.run_bind, Sem.run_pure, Result.andThen_ok, e]
theorem run_neq {t : TypeId} {X Y : Operand} {a b : Value} {w : World} {r : Bool} (h1 : ∀ u, eqGuard .neq t X Y a b = u → u = Pure.pure ()) (h2 : Go.binOp .neq t a b = (do pure (.bool (!(← Op.equal t a b))))) (h : (Op.equalIn (9999 + 1) t a b).run P w = .ok r w) :
    (binSem .neq t X Y a b).run P w = .ok (.bool (!r)) w := by
  have e : (Op.equal t a b).run P w = .ok r w := h
  unfold binSem
  rw [h1 _ rfl, h2]
  simp only [Sem.run_bind, Sem.run_pure, Result.andThen_ok, e]
theorem nilEq_yes {t : TypeId} {x y : AV} {k : Bool → Ans} (h : nilEq P t x y k = .yes) : ∃ r, k r = .yes ∧ CmpHolds P .eql t x y r ∧ CmpHolds P .neq t x y (!r) := by
  have key : ∀ q (d : TypeDesc), P.underlying t = some d → (q = 0 ∧ (∃ e, d = .pointer e) ∨ q = 1 ∧ (∃ e, d = .slice e) ∨ q = 2 ∧ (∃ e f, d = .map e f) ∨ q = 3 ∧ (∃ a b c, d = .func a b c)) → nilOf q x y k = .yes →
      ∃ r, k r = .yes ∧ CmpHolds P .eql t x y r ∧ CmpHolds P .neq t x y (!r) := by
    intro q d hd hq h
    obtain ⟨r, h1, h2⟩ := nilOf_yes h
    have go : ∀ β X Y a b w, con β x = some a → con β y = some b → (binSem .eql t X Y a b).run P w = .ok (.bool r) w ∧ (binSem .neq t X Y a b).run P w = .ok (.bool (!r)) w := by
      intro β X Y a b w ha hb
      obtain ⟨r1, r2, n1, n2, hor, rfl⟩ := h2 β a b ha hb
      have hu := run_underlying hd w
      rcases hq with ⟨rfl, e, rfl⟩ | ⟨rfl, e, rfl⟩ | ⟨rfl, e, f, rfl⟩ | ⟨rfl, e, f, g, rfl⟩
      · rcases n1 with ⟨-, rfl, rfl⟩ | ⟨h, -⟩ | ⟨h, -⟩ | ⟨h, -⟩ | ⟨-, rfl, z, rfl⟩ | ⟨h, -⟩ | ⟨h, -⟩ | ⟨h, -⟩ <;> first | omega | skip
        all_goals (rcases n2 with ⟨-, rfl, rfl⟩ | ⟨h, -⟩ | ⟨h, -⟩ | ⟨h, -⟩ | ⟨-, rfl, z2, rfl⟩ | ⟨h, -⟩ | ⟨h, -⟩ | ⟨h, -⟩ <;> first | omega | skip)
        all_goals (first | (simp at hor; done) | (refine ⟨run_eql (fun u h => h.symm) rfl ?_, run_neq (fun u h => h.symm) rfl ?_⟩ <;> (rw [Op.equalIn]; simp only [Sem.run_bind, hu, Result.andThen_ok]; rfl)))
      · rcases n1 with ⟨h, -⟩ | ⟨-, rfl, m, c, rfl⟩ | ⟨h, -⟩ | ⟨h, -⟩ | ⟨h, -⟩ | ⟨-, rfl, z, m, c, rfl⟩ | ⟨h, -⟩ | ⟨h, -⟩ <;> first | omega | skip
        all_goals (rcases n2 with ⟨h, -⟩ | ⟨-, rfl, m2, c2, rfl⟩ | ⟨h, -⟩ | ⟨h, -⟩ | ⟨h, -⟩ | ⟨-, rfl, z2, m2, c2, rfl⟩ | ⟨h, -⟩ | ⟨h, -⟩ <;> first | omega | skip)
        all_goals (first | (simp at hor; done) | (refine ⟨run_eql (fun u h => h.symm) rfl ?_, run_neq (fun u h => h.symm) rfl ?_⟩ <;> (rw [Op.equalIn]; simp only [Sem.run_bind, hu, Result.andThen_ok]; rfl)))
      · rcases n1 with ⟨h, -⟩ | ⟨h, -⟩ | ⟨-, rfl, rfl⟩ | ⟨h, -⟩ | ⟨h, -⟩ | ⟨h, -⟩ | ⟨-, rfl, z, rfl⟩ | ⟨h, -⟩ <;> first | omega | skip
        all_goals (rcases n2 with ⟨h, -⟩ | ⟨h, -⟩ | ⟨-, rfl, rfl⟩ | ⟨h, -⟩ | ⟨h, -⟩ | ⟨h, -⟩ | ⟨-, rfl, z2, rfl⟩ | ⟨h, -⟩ <;> first | omega | skip)
        all_goals (first | (simp at hor; done) | (refine ⟨run_eql (fun u h => h.symm) rfl ?_, run_neq (fun u h => h.symm) rfl ?_⟩ <;> (rw [Op.equalIn]; simp only [Sem.run_bind, hu, Result.andThen_ok]; rfl)))
      · rcases n1 with ⟨h, -⟩ | ⟨h, -⟩ | ⟨h, -⟩ | ⟨-, rfl, rfl⟩ | ⟨h, -⟩ | ⟨h, -⟩ | ⟨h, -⟩ | ⟨-, rfl, z, m, c, rfl⟩ <;> first | omega | skip
        all_goals (rcases n2 with ⟨h, -⟩ | ⟨h, -⟩ | ⟨h, -⟩ | ⟨-, rfl, rfl⟩ | ⟨h, -⟩ | ⟨h, -⟩ | ⟨h, -⟩ | ⟨-, rfl, z2, m2, c2, rfl⟩ <;> first | omega | skip)
        all_goals (first | (simp at hor; done) | (refine ⟨run_eql (fun u h => h.symm) rfl ?_, run_neq (fun u h => h.symm) rfl ?_⟩ <;> (rw [Op.equalIn]; simp only [Sem.run_bind, hu, Result.andThen_ok]; rfl)))
    exact ⟨r, h1, fun β X Y a b w ha hb => (go β X Y a b w ha hb).1, fun β X Y a b w ha hb => (go β X Y a b w ha hb).2⟩
  unfold nilEq at h
  split at h
  · rename_i e hd; exact key 0 _ hd (.inl ⟨rfl, e, rfl⟩) h
  · rename_i e hd; exact key 1 _ hd (.inr (.inl ⟨rfl, e, rfl⟩)) h
  · rename_i e f hd; exact key 2 _ hd (.inr (.inr (.inl ⟨rfl, e, f, rfl⟩))) h
  · rename_i e f g hd; exact key 3 _ hd (.inr (.inr (.inr ⟨rfl, e, f, g, rfl⟩))) h
  · cases h
theorem eqAll_yes {t : TypeId} {x y : AV} {k : Bool → Ans} {gen : Ans} (h : eqAll P t x y k gen = .yes) : (∃ r, k r = .yes ∧ CmpHolds P .eql t x y r ∧ CmpHolds P .neq t x y (!r)) ∨ gen = .yes := by
  unfold eqAll at h
  split at h
  · rename_i a b
    obtain ⟨h1, h⟩ := cnd_yes h
    rw [fBool_eq] at h
    unfold eqAll.knownBool at h1
    split at h1
    · rename_i hd
      left
      refine ⟨_, h, fun β X Y u v w hu hv => ?_, fun β X Y u v w hu hv => ?_⟩
      · rw [con_bool hu, con_bool hv]; exact run_eql (fun u h => h.symm) rfl (by rw [Op.equalIn]; simp only [Sem.run_bind, run_underlying hd, Result.andThen_ok]; rfl)
      · rw [con_bool hu, con_bool hv]; exact run_neq (fun u h => h.symm) rfl (by rw [Op.equalIn]; simp only [Sem.run_bind, run_underlying hd, Result.andThen_ok]; rfl)
    · cases h1
  · exact .inr h
  · exact .inr h
  · exact .inr h
  · exact .inr h
  · exact .inr h
  · rename_i b o b' o'
    obtain ⟨h1, g1⟩ := cnd_yes h
    obtain ⟨h2, g2⟩ := cnd_yes g1
    obtain ⟨h3, g3⟩ := cnd_yes g2
    clear h g1 g2
    obtain rfl := Nat.eq_of_beq_eq_true h1
    obtain rfl := Nat.eq_of_beq_eq_true h2
    unfold ptrB at h3
    split at h3
    · rename_i e hd
      obtain ⟨j, hj⟩ := Option.isSome_iff_exists.1 h3
      have key : ∀ (d : Nat) (a : Addr) (w : World), (Op.equalIn (d + 1) t (.pointer (some a)) (.pointer (some a))).run P w = .ok true w := fun d a w => by
        simp [Op.equalIn, run_underlying hd, sizeOf, typeInfo, hj, run_sameAddr_same]
      left
      refine ⟨_, g3, fun β X Y u v w hu hv => ?_, fun β X Y u v w hu hv => ?_⟩
      · rw [hu] at hv; injection hv with hv; subst hv
        obtain ⟨c, κ, -, rfl⟩ := con_ptr hu
        exact run_eql (fun u h => h.symm) rfl (key 9999 _ w)
      · rw [hu] at hv; injection hv with hv; subst hv
        obtain ⟨c, κ, -, rfl⟩ := con_ptr hu
        exact run_neq (fun u h => h.symm) rfl (key 9999 _ w)
    · cases h3
  · exact .inl (nilEq_yes h)
theorem ltL_tri : ∀ (l m : List Nat), ltL m l = !(ltL l m || l == m)
  | [], [] => rfl
  | [], _ :: _ => rfl
  | _ :: _, [] => rfl
  | a :: l, b :: m => by
    rw [ltL, ltL, ltL_tri l m, List.cons_beq_cons]
    by_cases h1 : a < b
    · have h2 : ¬ b < a := by omega
      have h3 : (b == a) = false := by simp; omega
      simp [h1, h2, h3]
    · by_cases h2 : b < a
      · have h3 : (a == b) = false := by simp; omega
        simp [h1, h2, h3]
      · obtain rfl : a = b := by omega
        simp
theorem binC_sound (op : BinOp) (t : TypeId) {o : Oper} {X Y : Operand} {yt : TypeId} (ho : o.op = .binOp op t X Y yt) :
    ∃ f, binC P op t = .c2 f ∧ ∀ x y h k, f x y h k = .yes → ∃ v h', k v h' = .yes ∧ OpHolds P o [x, y] h v h' ∧ Quiet P o [x, y] h v h' := by
  have bh : ∀ {x y : AV} {h : Hp} {k : AK}, (∃ v, k v h = .yes ∧ BinHolds P op t x y v) → ∃ v h', k v h' = .yes ∧ OpHolds P o [x, y] h v h' ∧ Quiet P o [x, y] h v h' :=
    fun ⟨v, h1, h2⟩ => ⟨v, _, h1, h2.op ho _, fun _ => ⟨rfl, fun h3 => h2.op ho h3⟩⟩
  have lt63 : ∀ (a b : Nat), ((a : Int) < (b : Int)) = (a < b) := fun a b => propext (by omega)
  cases op
  case add => exact ⟨_, rfl, fun x y h k H => bh (addK_yes H)⟩
  case sub => exact ⟨_, rfl, fun x y h k H => bh (subK_yes H)⟩
  case mul => exact ⟨_, rfl, fun x y h k H => bh (mulK_yes H)⟩
  case eql =>
    refine ⟨_, rfl, fun x y h k H => bh ?_⟩
    rcases cmpK_yes eqNat_eq H with ⟨a, b, rfl, rfl, G⟩ | ⟨a, b, rfl, rfl, G⟩ | ⟨n, l, m, r, rfl, rfl, G⟩ | G
    · rw [boolTo_eq] at G
      exact ⟨_, G, (cmp_nat (q := .i64) (by decide) (by decide) (fun w => by simp only [Op.intCmp, bool_eq_nat]; rfl) (fun β v e => con_nat e) (fun β v e => con_nat e)).bin⟩
    · rw [boolTo_eq] at G
      exact ⟨_, G, (cmp_nat (q := .u8) (by decide) (by decide) (fun w => by simp only [Op.intCmp, bool_eq_nat]; rfl) (fun β v e => con_u8 e) (fun β v e => con_u8 e)).bin⟩
    · rw [boolTo_eq] at G
      exact ⟨_, G, (cmp_str (fun a b w => by simp only [Op.stringOp, bytesOf_toList, map_ofNat_eq a b]; rfl)).bin⟩
    · rcases eqAll_yes G with ⟨r, G, c1, c2⟩ | G
      · rw [boolTo_eq] at G; exact ⟨_, G, c1.bin⟩
      · obtain ⟨r, G, c1⟩ := genB_cmp G
        rw [boolTo_eq] at G; exact ⟨_, G, c1.bin⟩
  case neq =>
    refine ⟨_, rfl, fun x y h k H => bh ?_⟩
    rcases cmpK_yes eqNat_eq H with ⟨a, b, rfl, rfl, G⟩ | ⟨a, b, rfl, rfl, G⟩ | ⟨n, l, m, r, rfl, rfl, G⟩ | G
    · rw [notTo_eq] at G
      exact ⟨_, G, (cmp_nat (q := .i64) (by decide) (by decide) (fun w => by simp only [Op.intCmp, bne, bool_eq_nat]; rfl) (fun β v e => con_nat e) (fun β v e => con_nat e)).bin⟩
    · rw [notTo_eq] at G
      exact ⟨_, G, (cmp_nat (q := .u8) (by decide) (by decide) (fun w => by simp only [Op.intCmp, bne, bool_eq_nat]; rfl) (fun β v e => con_u8 e) (fun β v e => con_u8 e)).bin⟩
    · rw [notTo_eq] at G
      exact ⟨_, G, (cmp_str (fun a b w => by simp only [Op.stringOp, bytesOf_toList, map_ofNat_eq a b]; rfl)).bin⟩
    · rcases eqAll_yes G with ⟨r, G, c1, c2⟩ | G
      · rw [notTo_eq] at G; exact ⟨_, G, c2.bin⟩
      · obtain ⟨r, G, c1⟩ := genB_cmp G
        rw [fBool_eq, notTo_eq, Bool.not_not] at G; exact ⟨_, G, c1.bin⟩
  case lss =>
    refine ⟨_, rfl, fun x y h k H => bh ?_⟩
    rcases cmpK_yes ltNat_eq H with ⟨a, b, rfl, rfl, G⟩ | ⟨a, b, rfl, rfl, G⟩ | ⟨n, l, m, r, rfl, rfl, G⟩ | G
    · rw [boolTo_eq] at G
      exact ⟨_, G, (cmp_nat (q := .i64) (by decide) (by decide) (fun w => by simp only [Op.intCmp, lss_nat]; rfl) (fun β v e => con_nat e) (fun β v e => con_nat e)).bin⟩
    · rw [boolTo_eq] at G
      exact ⟨_, G, (cmp_nat (q := .u8) (by decide) (by decide) (fun w => by simp only [Op.intCmp, lss_nat]; rfl) (fun β v e => con_u8 e) (fun β v e => con_u8 e)).bin⟩
    · rw [boolTo_eq] at G
      exact ⟨_, G, (cmp_str (fun a b w => by simp only [Op.stringOp, bytesOf_toList, bytesLess_map a b]; rfl)).bin⟩
    · obtain ⟨r, G, c1⟩ := genB_cmp G
      rw [boolTo_eq] at G; exact ⟨_, G, c1.bin⟩
  case geq =>
    refine ⟨_, rfl, fun x y h k H => bh ?_⟩
    have ge : ∀ a b : Nat, decide ((a : Int) ≥ (b : Int)) = !Nat.blt a b := fun a b => by rw [← lss_nat, ← decide_not, decide_eq_decide]; omega
    rcases cmpK_yes ltNat_eq H with ⟨a, b, rfl, rfl, G⟩ | ⟨a, b, rfl, rfl, G⟩ | ⟨n, l, m, r, rfl, rfl, G⟩ | G
    · rw [notTo_eq] at G
      exact ⟨_, G, (cmp_nat (q := .i64) (by decide) (by decide) (fun w => by simp only [Op.intCmp, ge]; rfl) (fun β v e => con_nat e) (fun β v e => con_nat e)).bin⟩
    · rw [notTo_eq] at G
      exact ⟨_, G, (cmp_nat (q := .u8) (by decide) (by decide) (fun w => by simp only [Op.intCmp, ge]; rfl) (fun β v e => con_u8 e) (fun β v e => con_u8 e)).bin⟩
    · rw [notTo_eq] at G
      exact ⟨_, G, (cmp_str (fun a b w => by simp only [Op.stringOp, bytesOf_toList, bytesLess_map a b]; rfl)).bin⟩
    · obtain ⟨r, G, c1⟩ := genB_cmp G
      rw [fBool_eq, notTo_eq, Bool.not_not] at G; exact ⟨_, G, c1.bin⟩
  case gtr =>
    refine ⟨_, rfl, fun x y h k H => bh ?_⟩
    have gt : ∀ a b : Nat, decide ((b : Int) > (a : Int)) = Nat.blt a b := fun a b => by rw [← lss_nat]
    rcases cmpK_yes ltNat_eq H with ⟨a, b, rfl, rfl, G⟩ | ⟨a, b, rfl, rfl, G⟩ | ⟨n, l, m, r, rfl, rfl, G⟩ | G
    · rw [boolTo_eq] at G
      exact ⟨_, G, (cmp_nat (q := .i64) (by decide) (by decide) (fun w => by simp only [Op.intCmp, gt]; rfl) (fun β v e => con_nat e) (fun β v e => con_nat e)).bin⟩
    · rw [boolTo_eq] at G
      exact ⟨_, G, (cmp_nat (q := .u8) (by decide) (by decide) (fun w => by simp only [Op.intCmp, gt]; rfl) (fun β v e => con_u8 e) (fun β v e => con_u8 e)).bin⟩
    · rw [boolTo_eq] at G
      exact ⟨_, G, (cmp_str (fun a b w => by simp only [Op.stringOp, bytesOf_toList, bytesLess_map a b, map_ofNat_eq a b, ltL_tri r l, Bool.not_not]; rfl)).bin⟩
    · obtain ⟨r, G, c1⟩ := genB_cmp G
      rw [boolTo_eq] at G; exact ⟨_, G, c1.bin⟩
  case leq =>
    refine ⟨_, rfl, fun x y h k H => bh ?_⟩
    have le : ∀ a b : Nat, decide ((b : Int) ≤ (a : Int)) = !Nat.blt a b := fun a b => by rw [← lss_nat, ← decide_not, decide_eq_decide]; omega
    rcases cmpK_yes ltNat_eq H with ⟨a, b, rfl, rfl, G⟩ | ⟨a, b, rfl, rfl, G⟩ | ⟨n, l, m, r, rfl, rfl, G⟩ | G
    · rw [notTo_eq] at G
      exact ⟨_, G, (cmp_nat (q := .i64) (by decide) (by decide) (fun w => by simp only [Op.intCmp, le]; rfl) (fun β v e => con_nat e) (fun β v e => con_nat e)).bin⟩
    · rw [notTo_eq] at G
      exact ⟨_, G, (cmp_nat (q := .u8) (by decide) (by decide) (fun w => by simp only [Op.intCmp, le]; rfl) (fun β v e => con_u8 e) (fun β v e => con_u8 e)).bin⟩
    · rw [notTo_eq] at G
      exact ⟨_, G, (cmp_str (fun a b w => by simp only [Op.stringOp, bytesOf_toList, bytesLess_map a b, map_ofNat_eq a b, ltL_tri r l, Bool.not_not]; rfl)).bin⟩
    · obtain ⟨r, G, c1⟩ := genB_cmp G
      rw [fBool_eq, notTo_eq, Bool.not_not] at G; exact ⟨_, G, c1.bin⟩
  all_goals exact ⟨_, rfl, fun x y h k H => bh (gen2_yes H)⟩
end Go.Ev
