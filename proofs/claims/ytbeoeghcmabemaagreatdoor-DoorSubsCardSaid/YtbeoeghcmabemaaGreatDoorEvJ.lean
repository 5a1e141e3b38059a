/- The evaluator's operations are the model's: parts of values, conversions. -/
import Derived.Test.YtbeoeghcmabemaaGreatDoorEvH
import Derived.Lib.ConvBytes
import Derived.Lib.Builder
import Derived.Laws.BytesString
set_option linter.unusedVariables false
set_option linter.unusedSectionVars false
set_option linter.unusedSimpArgs false
namespace Go.Ev
variable [Sg]
open Go.RowKit
variable {P : Program}

theorem sizeK_yes {t : TypeId} {k : Nat → Ans} (h : sizeK P t k = .yes) : ∃ i, P.info? t = some i ∧ k i.size = .yes := by
  unfold sizeK at h
  cases hi : P.info? t with
  | none => rw [hi] at h; cases h
  | some i => rw [hi] at h; simp only [fNat_eq] at h; exact ⟨i, rfl, h⟩
theorem zeroK_yes {t : TypeId} {k : AV → Ans} (h : zeroK P t k = .yes) : ∃ i z av, P.info? t = some i ∧ i.zero = some z ∧ (∀ β, con β av = some z) ∧ k av = .yes := by
  unfold zeroK at h
  cases hi : P.info? t with
  | none => rw [hi] at h; cases h
  | some i =>
    rw [hi] at h
    cases hz : i.zero with
    | none => simp only [hz] at h; cases h
    | some z =>
      simp only [hz] at h
      obtain ⟨av, h1, h2⟩ := fVal_yes h
      exact ⟨i, z, av, rfl, hz, h1, h2⟩
theorem natOf_yes {x : AV} {k : Nat → Ans} (h : natOf x k = .yes) : ∃ n : Nat, (∀ β v, con β x = some v → ∃ q, v = .int q n) ∧ k n = .yes := by
  unfold natOf at h
  split at h
  · exact ⟨_, fun β v hv => ⟨_, con_nat hv⟩, h⟩
  · exact ⟨_, fun β v hv => ⟨_, con_u8 hv⟩, h⟩
  · exact ⟨_, fun β v hv => ⟨_, con_int hv⟩, h⟩
  · cases h
theorem optOf_yes {x : Option AV} {d : Nat} {k : Nat → Ans} (h : optOf x d k = .yes) : ∃ n : Nat, k n = .yes ∧ ((x = none ∧ n = d) ∨ ∃ y, x = some y ∧ ∀ β v, con β y = some v → ∃ q, v = .int q n) := by
  unfold optOf at h
  split at h
  · exact ⟨d, h, .inl ⟨rfl, rfl⟩⟩
  · obtain ⟨n, h1, h2⟩ := natOf_yes h; exact ⟨n, h2, .inr ⟨_, rfl, h1⟩⟩
theorem con_one {β : Bt} {x : AV} {v : Value} (h : con β x = some v) (h1 : ∀ l, x ≠ .agg l) (h2 : ∀ l, x ≠ .tup l) : v.oneCell' = true ∧ v.cells = #[v] := by
  cases x with
  | nat n => rw [con_nat h]; exact ⟨rfl, rfl⟩
  | u8 n => rw [con_u8 h]; exact ⟨rfl, rfl⟩
  | int q z => rw [con_int h]; exact ⟨rfl, rfl⟩
  | bool b => rw [con_bool h]; exact ⟨rfl, rfl⟩
  | str n l => rw [(con_str_inv h).1]; exact ⟨rfl, rfl⟩
  | raw u => obtain ⟨rfl, h3⟩ := con_raw h; exact ⟨h3, by cases v <;> first | rfl | cases h3⟩
  | ptr b off => obtain ⟨c, κ, _, rfl⟩ := con_ptr h; exact ⟨rfl, rfl⟩
  | slice b off n ex d => obtain ⟨c, κ, _, rfl⟩ := con_slice h; exact ⟨rfl, rfl⟩
  | map b => obtain ⟨c, κ, _, rfl⟩ := con_map h; exact ⟨rfl, rfl⟩
  | iface t x => obtain ⟨c, _, rfl⟩ := con_iface h; exact ⟨rfl, rfl⟩
  | agg l => exact absurd rfl (h1 l)
  | tup l => exact absurd rfl (h2 l)
  | fn f a b => obtain ⟨c, d, _, _, rfl⟩ := con_fn h; exact ⟨rfl, rfl⟩
  | sym i =>
    simp only [con] at h
    split at h
    · rename_i h3
      injection h with h; subst h
      revert h3
      cases Sg.val i <;> intro h3 <;> first | exact ⟨rfl, rfl⟩ | cases h3
    · cases h
theorem cells_yes {x : AV} {k : List AV → Ans} (h : x.cells k = .yes) : ∃ l, k l = .yes ∧ ∀ β v, con β x = some v → ∃ vs, conL β l = some vs ∧ v.cells = vs.toArray ∧ ∀ u ∈ vs, u.oneCell' = true := by
  unfold AV.cells at h
  split at h
  · rename_i l
    refine ⟨l, h, fun β v hv => ?_⟩
    obtain ⟨vs, h1, rfl, h2⟩ := con_agg hv
    exact ⟨vs, h1, rfl, h2⟩
  · cases h
  · rename_i h1 h2
    refine ⟨[x], h, fun β v hv => ?_⟩
    obtain ⟨h3, h4⟩ := con_one hv h1 h2
    exact ⟨[v], conL_mk hv rfl, h4, fun u hu => by cases hu with | head => exact h3 | tail _ hu => cases hu⟩

theorem unK_yes {op : UnOp} {x : AV} {k : AV → Ans} (h : unK P op x k = .yes) : ∃ v, k v = .yes ∧ ∀ β a w, con β x = some a → ∃ u, (Op.unary op a).run P w = .ok u w ∧ con β v = some u := by
  unfold unK at h
  split at h
  · rename_i b
    rw [fBool_eq] at h
    exact ⟨_, h, fun β a w ha => by rw [con_bool ha]; exact ⟨_, rfl, rfl⟩⟩
  · obtain ⟨p, hp, h⟩ := plainK_yes h
    obtain ⟨v, av, h1, h2, h3⟩ := modelK_yes h
    exact ⟨av, h3, fun β a w ha => ⟨v, by rw [plain_con β hp ha]; exact semPure_run h1 w, h2 β⟩⟩
theorem wrapK_yes {q : IntKind} {z : Int} {k : AV → Ans} (h : wrapK q z k = .yes) : ∃ v, k v = .yes ∧ ∀ β, con β v = some (.int q (q.wrap z)) := by
  unfold wrapK at h
  rw [fInt_eq] at h
  obtain ⟨av, h1, h2⟩ := intAV_yes h
  exact ⟨av, h2, h1⟩
theorem knownB_some {t : TypeId} (h : knownB P t = true) : ∃ d, P.underlying t = some d := Option.isSome_iff_exists.1 h
theorem aggB_run {t : TypeId} {d : TypeDesc} (hd : P.underlying t = some d) (w : World) : (isAgg t).run P w = .ok (aggB P t) w := by
  unfold isAgg aggB
  simp only [Sem.run_bind, run_underlying hd, Result.andThen_ok, hd]
  cases d <;> rfl
theorem partK_yes {t : TypeId} {l : List AV} {off : Nat} {k : AV → Ans} (h : partK P t l off k = .yes) : ∃ v, k v = .yes ∧ ∀ β vs w, conL β l = some vs → (∀ u ∈ vs, u.oneCell' = true) → ∃ u, (part t vs.toArray off).run P w = .ok u w ∧ con β v = some u := by
  unfold partK at h
  obtain ⟨h1, h⟩ := cnd_yes h
  obtain ⟨d, hd⟩ := knownB_some h1
  rw [cnd_eq] at h
  split at h
  · rename_i ha
    obtain ⟨i, hi, h⟩ := sizeK_yes h
    rw [dropK_eq, takeK_eq] at h
    refine ⟨_, h, fun β vs w hl h1 => ?_⟩
    refine ⟨.agg ((vs.drop off).take i.size).toArray, ?_, con_agg_mk (conL_take _ (conL_drop _ hl)) (fun u hu => h1 u (List.mem_of_mem_drop (List.mem_of_mem_take hu)))⟩
    unfold part
    simp only [Sem.run_bind, aggB_run hd, Result.andThen_ok, ha, if_true, sizeOf, typeInfo, run_program, hi, Sem.run_pure]
    congr 2
    apply Array.ext'
    simp [List.extract_eq_take_drop]
  · rename_i ha
    obtain ⟨v, hv, h⟩ := nthK_yes h
    refine ⟨v, h, fun β vs w hl h1 => ?_⟩
    obtain ⟨u, h2, h3⟩ := conL_get hl hv
    refine ⟨u, ?_, h3⟩
    unfold part
    simp [Sem.run_bind, aggB_run hd, Result.andThen_ok, ha, h2]
theorem fieldK_yes {s : TypeId} {x : AV} {f : Nat} {k : AV → Ans} (h : fieldK P s x f k = .yes) : ∃ v, k v = .yes ∧ ∀ β a w, con β x = some a → ∃ u, (Instr.field s a f).run P w = .ok u w ∧ con β v = some u := by
  unfold fieldK at h
  split at h
  · rename_i fs l hd
    cases hf : fs[f]? with
    | none => rw [hf] at h; cases h
    | some g =>
      rw [hf] at h
      obtain ⟨v, h1, h2⟩ := partK_yes h
      refine ⟨v, h1, fun β a w ha => ?_⟩
      obtain ⟨vs, h3, rfl, h4⟩ := con_agg ha
      obtain ⟨u, h5, h6⟩ := h2 β vs w h3 h4
      refine ⟨u, ?_, h6⟩
      unfold Instr.field
      simp only [Sem.run_bind, run_underlying hd, Result.andThen_ok, hf, asAgg, Sem.run_pure, h5]
  · cases h
theorem fieldAddrK_yes {s : TypeId} {x : AV} {f : Nat} {k : AV → Ans} (h : fieldAddrK P s x f k = .yes) : ∃ v, k v = .yes ∧ ∀ β a w, con β x = some a → ∃ u, (Instr.fieldAt s a f).run P w = .ok u w ∧ con β v = some u := by
  unfold fieldAddrK at h
  split at h
  · rename_i fs b off hd
    cases hf : fs[f]? with
    | none => rw [hf] at h; cases h
    | some g =>
      rw [hf] at h
      obtain ⟨i, hi, h⟩ := sizeK_yes h
      rw [cnd_eq] at h
      split at h
      · cases h
      · rename_i hz
        rw [fNat_eq] at h
        refine ⟨_, h, fun β a w ha => ?_⟩
        obtain ⟨c, κ, hc, rfl⟩ := con_ptr ha
        refine ⟨.pointer (some ⟨c, off + g.offset, none⟩), ?_, by simp [con, hc]⟩
        have hz' : ¬ i.size = 0 := by simpa using hz
        unfold Instr.fieldAt
        simp only [Sem.run_bind, run_underlying hd, Result.andThen_ok, hf, Instr.sureAddr, Sem.run_pure, fieldPlace, sizeOf, typeInfo, run_program, hi]
        rw [if_neg hz']
        simp only [Sem.run_pure, Result.andThen_ok, Addr.add_lit]
  · cases h
theorem run_index_int {q : IntKind} {i : Int} {w : World} : (asIntOf (.int q i)).run P w = .ok (q, i) w := rfl
theorem indexAddrK_yes {t : TypeId} {x i : AV} {k : AV → Ans} (H : indexAddrK P t x i k = .yes) : ∃ v, k v = .yes ∧ ∀ β a b w, con β x = some a → con β i = some b → ∃ u, (Instr.indexAt t a b).run P w = .ok u w ∧ con β v = some u := by
  unfold indexAddrK at H
  obtain ⟨n, hn, h⟩ := natOf_yes H
  clear H
  split at h
  · rename_i m e b off hd
    obtain ⟨ti, hi, h⟩ := sizeK_yes h
    obtain ⟨hlt, h⟩ := cnd_yes h
    rw [fNat_eq] at h
    have hlt' : n < m := by simpa using hlt
    refine ⟨_, h, fun β a b' w ha hb => ?_⟩
    obtain ⟨c, κ, hc, rfl⟩ := con_ptr ha
    obtain ⟨q, rfl⟩ := hn β b' hb
    refine ⟨.pointer (some ⟨c, off + n * ti.size, none⟩), ?_, by simp [con, hc]⟩
    unfold Instr.indexAt
    simp only [Sem.run_bind, run_index_int, run_underlying hd, Result.andThen_ok, Instr.sureAddr, Sem.run_pure]
    rw [if_pos ⟨by omega, by omega⟩]
    simp [sizeOf, typeInfo, hi, Addr.add_lit]
  · rename_i e b off len ex d hd
    obtain ⟨ti, hi, h⟩ := sizeK_yes h
    obtain ⟨hlt, h⟩ := cnd_yes h
    rw [fNat_eq] at h
    have hlt' : n < len := by simpa using hlt
    refine ⟨_, h, fun β a b' w ha hb => ?_⟩
    obtain ⟨c, κ, hc, rfl⟩ := con_slice ha
    obtain ⟨q, rfl⟩ := hn β b' hb
    refine ⟨.pointer (some ⟨c, off + n * ti.size, none⟩), ?_, by simp [con, hc]⟩
    unfold Instr.indexAt
    simp only [Sem.run_bind, run_index_int, run_underlying hd, Result.andThen_ok, Sem.run_pure]
    rw [if_pos ⟨by omega, by omega⟩]
    simp [sizeOf, typeInfo, hi, Addr.add_lit]
  · cases h
theorem bytesOf_get {l : List Nat} {i c : Nat} (h : l[i]? = some c) : (bytesOf l)[i]? = some (UInt8.ofNat c) := by
  have hi : i < l.length := by
    rcases Nat.lt_or_ge i l.length with h1 | h1
    · exact h1
    · rw [List.getElem?_eq_none h1] at h; cases h
  have : i < (bytesOf l).size := by rw [bytesOf_size]; exact hi
  rw [getElem?_pos (bytesOf l) i this]
  have e : (bytesOf l)[i] = (l.map UInt8.ofNat)[i]'(by simpa using hi) := rfl
  rw [e, List.getElem_map]
  rw [List.getElem?_eq_getElem hi] at h; injection h with h; rw [h]
theorem indexK_yes {t : TypeId} {x i : AV} {k : AV → Ans} (H : indexK P t x i k = .yes) : ∃ v, k v = .yes ∧ ∀ β a b w, con β x = some a → con β i = some b → ∃ u, (Instr.index t a b).run P w = .ok u w ∧ con β v = some u := by
  unfold indexK at H
  obtain ⟨n, hn, h⟩ := natOf_yes H
  clear H
  split at h
  · rename_i m e l hd
    obtain ⟨ti, hi, h⟩ := sizeK_yes h
    obtain ⟨hlt, h⟩ := cnd_yes h
    rw [fNat_eq] at h
    have hlt' : n < m := by simpa using hlt
    obtain ⟨v, h1, h2⟩ := partK_yes h
    refine ⟨v, h1, fun β a b' w ha hb => ?_⟩
    obtain ⟨vs, h3, rfl, h4⟩ := con_agg ha
    obtain ⟨q, rfl⟩ := hn β b' hb
    obtain ⟨u, h5, h6⟩ := h2 β vs w h3 h4
    refine ⟨u, ?_, h6⟩
    unfold Instr.index
    simp only [Sem.run_bind, run_index_int, run_underlying hd, Result.andThen_ok]
    rw [if_pos ⟨by omega, by omega⟩]
    simp only [Sem.run_bind, sizeOf, typeInfo, hi, run_program, Result.andThen_ok, Sem.run_pure, Int.toNat_natCast]
    exact h5
  · rename_i m l hd
    obtain ⟨c, hc, h⟩ := nthK_yes h
    refine ⟨_, h, fun β a b' w ha hb => ?_⟩
    obtain ⟨rfl, h3, h4⟩ := con_str_inv ha
    obtain ⟨q, rfl⟩ := hn β b' hb
    have hc256 : c < 256 := by
      have := List.all_eq_true.1 h4 c (List.mem_iff_getElem?.2 ⟨n, hc⟩)
      simpa using this
    refine ⟨.int .u8 c, ?_, rfl⟩
    unfold Instr.index
    simp only [Sem.run_bind, run_index_int, run_underlying hd, Result.andThen_ok]
    rw [if_pos (by omega), Int.toNat_natCast, bytesOf_get hc]
    simp only [Sem.run_pure]
    rw [show ((UInt8.ofNat c).toNat : Int) = (c : Int) by simp; omega]
  · cases h
end Go.Ev
namespace Go.Ev
variable [Sg]
open Go.RowKit
variable {P : Program}

/-- What a computation comes to, from memory to memory. -/
def Comes (P : Program) (s : World → Sem Value → Prop) : Prop := True
def Sem1 (P : Program) (f : Value → Sem Value) (x : AV) (h : Hp) (v : AV) (h' : Hp) : Prop :=
  ∀ β w a, HR β h w → con β x = some a → ∃ β' w' u, (f a).run P w = .ok u w' ∧ Stp β h w β' h' w' ∧ con β' v = some u
def Sem2 (P : Program) (f : Value → Value → Sem Value) (x y : AV) (h : Hp) (v : AV) (h' : Hp) : Prop :=
  ∀ β w a b, HR β h w → con β x = some a → con β y = some b → ∃ β' w' u, (f a b).run P w = .ok u w' ∧ Stp β h w β' h' w' ∧ con β' v = some u
theorem Sem1.of_pure {f : Value → Sem Value} {x : AV} {h : Hp} {v : AV} (H : ∀ β a w, con β x = some a → ∃ u, (f a).run P w = .ok u w ∧ con β v = some u) : Sem1 P f x h v h :=
  fun β w a hr ha => let ⟨u, h1, h2⟩ := H β a w ha; ⟨β, w, u, h1, .refl hr, h2⟩
theorem bytesWorld_push (w : World) (e : TypeId) (s : ByteArray) : (Lib.bytesWorld w e s).heap = w.heap.push (.cells (Lib.bytesCells w e s) e ((Lib.bytesCells w e s).size, (Lib.bytesCells w e s).size + 1)) := by
  apply Array.ext_getElem?
  intro i
  rw [Array.getElem?_push]
  by_cases h : i = w.heap.size
  · subst h; rw [if_pos rfl]; exact Lib.bytesWorld_at_new w e s
  · rw [if_neg h]
    by_cases h2 : i < w.heap.size
    · exact Lib.bytesWorld_at_old w e s i h2
    · rw [Array.getElem?_eq_none (by rw [Lib.bytesWorld_size]; omega), Array.getElem?_eq_none (by omega)]
theorem u8L_eq (l : List Nat) (k : List AV → Ans) : (List.rec (motive := fun _ => (List AV → Ans) → Ans) (fun k => k []) (fun c _ ih k => ih fun r => k (.u8 c :: r)) l k : Ans) = k (l.map .u8) := by
  induction l generalizing k with
  | nil => rfl
  | cons c l ih => exact ih _
theorem conL_u8 (β : Bt) : ∀ {l : List Nat}, l.all (· < 256) = true → conL β (l.map .u8) = some (byteCells (bytesOf l))
  | [], _ => rfl
  | c :: l, h => by
    simp only [List.all_cons, Bool.and_eq_true, decide_eq_true_eq] at h
    have e : (bytesOf (c :: l)).data.toList = UInt8.ofNat c :: (bytesOf l).data.toList := rfl
    unfold byteCells
    rw [e, List.map_cons, List.map_cons]
    refine conL_mk ?_ (conL_u8 β h.2)
    show some (Value.int .u8 (c : Int)) = _
    congr 2
    simp; omega
theorem u8sOf_yes {cs : List AV} {k : List Nat → Ans} (h : (List.rec (motive := fun _ => (List Nat → Ans) → Ans) (fun k => k []) (fun c _ ih k => match c with
            | .u8 m => cnd (Nat.blt m 256) (ih fun r => k (m :: r)) (.no 37)
            | _ => .no 38) cs k : Ans) = .yes) : ∃ l : List Nat, cs = l.map .u8 ∧ l.all (· < 256) = true ∧ k l = .yes := by
  induction cs generalizing k with
  | nil => exact ⟨[], rfl, rfl, h⟩
  | cons c cs ih =>
    dsimp only at h
    split at h
    · obtain ⟨h1, h⟩ := cnd_yes h
      obtain ⟨l, rfl, h2, h3⟩ := ih h
      exact ⟨_ :: l, rfl, by simp only [List.all_cons, h2, Bool.and_true, decide_eq_true_eq]; simpa using h1, h3⟩
    · cases h
theorem foldl_push (ns : List Int) : ∀ s : ByteArray, ns.foldl (fun r n => r.push (UInt8.ofNat n.toNat)) s = ⟨s.data ++ (ns.map fun n => UInt8.ofNat n.toNat).toArray⟩ := by
  induction ns with
  | nil => intro s; simp
  | cons n ns ih => intro s; rw [List.foldl_cons, ih]; congr 1; simp [ByteArray.push]
theorem inK_yes {b off : Nat} {h : Hp} {k : TypeId → Nat → Bool → Ans} (H : inK b off h k = .yes) : ∃ e m ex c sz, h.tr.get (path b) = some (.cells e m c ex sz) ∧ off < m ∧ k e m ex = .yes := by
  cases h with
  | mk t n low =>
    unfold inK at H
    obtain ⟨bl, hb, H⟩ := getP_yes H
    cases bl with
    | cells e m c ex sz =>
      obtain ⟨h1, H⟩ := cnd_yes H
      exact ⟨e, m, ex, c, sz, hb, Nat.le_of_ble_eq_true h1, H⟩
    | map es cl => cases H
    | iter l p => cases H
    | miter b s => cases H
theorem convK_yes {src dst : TypeId} {x : AV} {h : Hp} {k : AK} (H : convK P src dst x h k = .yes) : ∃ v h', k v h' = .yes ∧ Sem1 P (convert src dst) x h v h' := by
  unfold convK at H
  split at H
  · rename_i q n hd
    obtain ⟨h1, H⟩ := cnd_yes H
    obtain ⟨d, hs⟩ := knownB_some h1
    obtain ⟨v, h2, h3⟩ := wrapK_yes H
    refine ⟨v, h, h2, .of_pure fun β a w ha => ⟨_, ?_, h3 β⟩⟩
    rw [con_nat ha]
    simp only [convert, Sem.run_bind, run_underlying hs, run_underlying hd, Result.andThen_ok, Conv.intToInt, Sem.run_pure]
    rfl
  · rename_i q n hd
    obtain ⟨h1, H⟩ := cnd_yes H
    obtain ⟨d, hs⟩ := knownB_some h1
    obtain ⟨v, h2, h3⟩ := wrapK_yes H
    refine ⟨v, h, h2, .of_pure fun β a w ha => ⟨_, ?_, h3 β⟩⟩
    rw [con_u8 ha]
    simp only [convert, Sem.run_bind, run_underlying hs, run_underlying hd, Result.andThen_ok, Conv.intToInt, Sem.run_pure]
    rfl
  · rename_i q q' n hd
    obtain ⟨h1, H⟩ := cnd_yes H
    obtain ⟨d, hs⟩ := knownB_some h1
    obtain ⟨v, h2, h3⟩ := wrapK_yes H
    refine ⟨v, h, h2, .of_pure fun β a w ha => ⟨_, ?_, h3 β⟩⟩
    rw [con_int ha]
    simp only [convert, Sem.run_bind, run_underlying hs, run_underlying hd, Result.andThen_ok, Conv.intToInt, Sem.run_pure]
  · rename_i n l hd
    obtain ⟨h1, H⟩ := cnd_yes H
    obtain ⟨d, hs⟩ := knownB_some h1
    refine ⟨_, h, H, .of_pure fun β a w ha => ⟨a, ?_, ha⟩⟩
    rw [(con_str_inv ha).1]
    simp only [convert, Sem.run_bind, run_underlying hs, run_underlying hd, Result.andThen_ok, Sem.run_pure]
  · rename_i e n l hd
    split at H
    · rename_i he
      obtain ⟨h1, H⟩ := cnd_yes H
      obtain ⟨d, hs⟩ := knownB_some h1
      rw [u8L_eq] at H
      cases h with
      | mk t nx low =>
        rw [newK_eq] at H
        refine ⟨_, _, H, fun β w a hr ha => ?_⟩
        obtain ⟨rfl, h3, h4⟩ := con_str_inv ha
        have hc := conL_u8 β h4
        have hcells : Lib.bytesCells w e (bytesOf l) = (byteCells (bytesOf l) ++ List.replicate (grownCap w (bytesOf l).size 0 e - (bytesOf l).size) (Value.int .u8 0)).toArray := by
          unfold Lib.bytesCells byteCells
          apply Array.ext'
          simp
        have hge := grownCap_ge w (bytesOf l).size 0 e
        have hsz : (byteCells (bytesOf l) ++ List.replicate (grownCap w (bytesOf l).size 0 e - (bytesOf l).size) (Value.int .u8 0)).length = grownCap w (bytesOf l).size 0 e := by
          simp only [List.length_append, byteCells_length, List.length_replicate]
          omega
        refine ⟨_, Lib.bytesWorld w e (bytesOf l), _, Lib.run_convert_string_bytes w src dst e (bytesOf l) hs hd he, new_stp (κ := grownCap w (bytesOf l).size 0 e) (fz := (grownCap w (bytesOf l).size 0 e, grownCap w (bytesOf l).size 0 e + 1)) (List.replicate (grownCap w (bytesOf l).size 0 e - (bytesOf l).size) (.int .u8 0)) hr hc (fun u hu => by obtain ⟨b, _, rfl⟩ := List.mem_map.1 hu; rfl) ?_ rfl rfl rfl ?_ (fun h => by cases h) ?_, ?_⟩
        · rw [bytesWorld_push, hcells, List.size_toArray, hsz]
        · intro i hi
          rw [hsz] at hi
          show ¬ (grownCap w (bytesOf l).size 0 e ≤ i ∧ _)
          omega
        · intro _; rw [hsz]; simp
        · rw [con_slice_mk (upd_same ..) (.inr (by rw [bytesOf_size] at *; omega))]
          simp [bytesOf_size, h3]
    · cases H
  · rename_i b off len ex d hd
    split at H
    · rename_i e hs
      split at H
      · rename_i he
        obtain ⟨cs, e', m, c, ex', sz, g1, g2, g3, g4, H⟩ := getK_yes H
        obtain ⟨l, rfl, h2, H⟩ := u8sOf_yes H
        refine ⟨_, h, H, fun β w a hr ha => ?_⟩
        obtain ⟨cb, κ, vs, e1, e2, e3, e4, e5⟩ := cells_of hr g1 g2 g3 g4
        obtain ⟨c', κ', e6, rfl⟩ := con_slice ha
        rw [e1] at e6; injection e6 with e6; injection e6 with e6 e7; subst e6
        rw [conL_u8 β h2] at e2; injection e2 with e2
        have hl : l.length = len := by simpa using g3
        refine ⟨β, w, .string (bytesOf l), ?_, .refl hr, con_str_mk hl.symm h2⟩
        rw [run_convert_bytes_string w src dst e _ _ _ hs he hd, run_bytesToString w _ len _ (l.map fun (n : Nat) => (n : Int))]
        · rw [foldl_push]
          show Result.ok (Value.string ⟨#[] ++ _⟩) w = _
          rw [Array.empty_append, List.map_map]
          congr 2
        · have := run_loadCells_list (P := P) w ⟨cb, off, none⟩ vs (fun j v hv => by rw [Addr.add_lit]; exact e5 j v hv)
          rw [e4] at this
          rw [this, ← e2]
          congr 2
          simp [bytesOf, byteCells, Function.comp_def]
          intro x hx
          have := List.all_eq_true.1 h2 x hx
          simp at this; omega
      · cases H
    · cases H
  · rename_i n c hd
    split at H
    · rename_i e hs
      split at H
      · rename_i he
        refine ⟨_, h, H, .of_pure fun β a w ha => ⟨.string (bytesOf []), ?_, con_str_mk rfl rfl⟩⟩
        rw [(con_raw ha).1, run_convert_bytes_string w src dst e _ _ _ hs he hd]
        rfl
      · cases H
    · cases H
  · rename_i b off hd
    split at H
    · rename_i t hs
      obtain ⟨i, hi, H⟩ := sizeK_yes H
      obtain ⟨h0, H⟩ := cnd_yes H
      obtain ⟨e, m, ex, c, sz, hb, hm, H⟩ := inK_yes H
      refine ⟨_, h, H, fun β w a hr ha => ⟨β, w, a, ?_, .refl hr, ha⟩⟩
      obtain ⟨cb, κ, hβ, rfl⟩ := con_ptr ha
      obtain ⟨-, cb', κ', hβ', cs, fz, g1, -, -, g2, -⟩ := hr.blk b _ hb
      rw [hβ] at hβ'; injection hβ' with hβ'; injection hβ' with e1 e2; subst e1
      have hsh : w.shape? cb = some (e, cs.size) := by simp [World.shape?, g1]
      exact Go.Lib.run_to_unsafe w _ hs hd hi (by have := Nat.le_of_ble_eq_true h0; omega) hsh (Nat.lt_of_lt_of_le hm g2)
    · cases H
  · rename_i u b off hd
    split at H
    · rename_i hs
      obtain ⟨e, m, ex, c, sz, hb, hm, H⟩ := inK_yes H
      obtain ⟨h1, H⟩ := cnd_yes H
      obtain ⟨h2, H⟩ := cnd_yes H
      obtain ⟨i, hi, H⟩ := sizeK_yes H
      refine ⟨_, h, H, fun β w a hr ha => ⟨β, w, a, ?_, .refl hr, ha⟩⟩
      obtain ⟨cb, κ, hβ, rfl⟩ := con_ptr ha
      obtain ⟨-, cb', κ', hβ', cs, fz, g1, -, -, g2, g3, -⟩ := hr.blk b _ hb
      rw [hβ] at hβ'; injection hβ' with hβ'; injection hβ' with e1 e2; subst e1
      have hsh : w.shape? cb = some (e, cs.size) := by simp [World.shape?, g1]
      refine Go.Lib.run_from_unsafe w _ hs hd hi hsh ?_
      rw [g3 h1]; exact h2
    · cases H
  · obtain ⟨p, hp, H⟩ := plainK_yes H
    obtain ⟨v, av, h1, h2, h3⟩ := modelK_yes H
    exact ⟨av, h, h3, .of_pure fun β a w ha => ⟨v, by rw [plain_con β hp ha]; exact semPure_run h1 w, h2 β⟩⟩
end Go.Ev
