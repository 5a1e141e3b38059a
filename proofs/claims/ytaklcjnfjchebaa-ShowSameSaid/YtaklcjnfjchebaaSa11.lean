import Derived.Lib.ConvBytes
import Derived.Lib.Builder
import Derived.Laws.BytesString
import Derived.Test.YtaklcjnfjchebaaSa10
set_option linter.unusedVariables false
set_option linter.unusedSectionVars false
set_option linter.unusedSimpArgs false
section
namespace Go.Ev
variable [Sg]
open Go.RowKit
variable {P : Program}
theorem sizeK_yes {t : TypeId} {k : Nat → Ans} (h : sizeK P t k = .yes) : ∃ i, P.info? t = some i ∧ k i.size = .yes := by
  unfold sizeK at h
  cases hi : P.info? t with
  | none => rw [hi] at h; cases h
  | some i => rw [hi] at h; simp only [fNat_eq] at h; exact ⟨i, rfl, h⟩
theorem zeroK_yes {t : TypeId} {k : AV → Ans} (h : zeroK P t k = .yes) : ∃ i z av, P.info? t = some i ∧ i.zero = some z ∧ (∀ β, con β av = some z) ∧ k av = .yes := by
  unfold zeroK at h
  cases hi : P.info? t with
  | none => rw [hi] at h; cases h
  | some i =>
    rw [hi] at h
    cases hz : i.zero with
    | none => simp only [hz] at h; cases h
    | some z =>
      simp only [hz] at h
      obtain ⟨av, h1, h2⟩ := fVal_yes h
      exact ⟨i, z, av, rfl, hz, h1, h2⟩
theorem natOf_yes {x : AV} {k : Nat → Ans} (h : natOf x k = .yes) : ∃ n : Nat, (∀ β v, con β x = some v → ∃ q, v = .int q n) ∧ k n = .yes := by
  unfold natOf at h
  split at h
  · exact ⟨_, fun β v hv => ⟨_, con_nat hv⟩, h⟩
  · exact ⟨_, fun β v hv => ⟨_, con_u8 hv⟩, h⟩
  · exact ⟨_, fun β v hv => ⟨_, con_int hv⟩, h⟩
  · cases h
theorem optOf_yes {x : Option AV} {d : Nat} {k : Nat → Ans} (h : optOf x d k = .yes) : ∃ n : Nat, k n = .yes ∧ ((x = none ∧ n = d) ∨ ∃ y, x = some y ∧ ∀ β v, con β y = some v → ∃ q, v = .int q n) := by
  unfold optOf at h
  split at h
  · exact ⟨d, h, .inl ⟨rfl, rfl⟩⟩
  · obtain ⟨n, h1, h2⟩ := natOf_yes h; exact ⟨n, h2, .inr ⟨_, rfl, h1⟩⟩
theorem con_one {β : Bt} {x : AV} {v : Value} (h : con β x = some v) (h1 : ∀ l, x ≠ .agg l) (h2 : ∀ l, x ≠ .tup l) : v.oneCell' = true ∧ v.cells = #[v] := by
  cases x with
  | nat n => rw [con_nat h]; exact ⟨rfl, rfl⟩
  | u8 n => rw [con_u8 h]; exact ⟨rfl, rfl⟩
  | int q z => rw [con_int h]; exact ⟨rfl, rfl⟩
  | bool b => rw [con_bool h]; exact ⟨rfl, rfl⟩
  | str n l => rw [(con_str_inv h).1]; exact ⟨rfl, rfl⟩
  | raw u => obtain ⟨rfl, h3⟩ := con_raw h; exact ⟨h3, by cases v <;> first | rfl | cases h3⟩
  | ptr b off => obtain ⟨c, κ, _, rfl⟩ := con_ptr h; exact ⟨rfl, rfl⟩
  | slice b off n ex d => obtain ⟨c, κ, _, rfl⟩ := con_slice h; exact ⟨rfl, rfl⟩
  | map b => obtain ⟨c, κ, _, rfl⟩ := con_map h; exact ⟨rfl, rfl⟩
  | iface t x => obtain ⟨c, _, rfl⟩ := con_iface h; exact ⟨rfl, rfl⟩
  | agg l => exact absurd rfl (h1 l)
  | tup l => exact absurd rfl (h2 l)
  | fn f a b => obtain ⟨c, d, _, _, rfl⟩ := con_fn h; exact ⟨rfl, rfl⟩
  | sym i =>
    simp only [con] at h
    split at h
    · rename_i h3
      injection h with h; subst h
      revert h3
      cases Sg.val i <;> intro h3 <;> first | exact ⟨rfl, rfl⟩ | cases h3
    · cases h
theorem cells_yes {x : AV} {k : List AV → Ans} (h : x.cells k = .yes) : ∃ l, k l = .yes ∧ ∀ β v, con β x = some v → ∃ vs, conL β l = some vs ∧ v.cells = vs.toArray ∧ ∀ u ∈ vs, u.oneCell' = true := by
  unfold AV.cells at h
  split at h
  · rename_i l
    refine ⟨l, h, fun β v hv => ?_⟩
    obtain ⟨vs, h1, rfl, h2⟩ := con_agg hv
    exact ⟨vs, h1, rfl, h2⟩
  · cases h
  · rename_i h1 h2
    refine ⟨[x], h, fun β v hv => ?_⟩
    obtain ⟨h3, h4⟩ := con_one hv h1 h2
    exact ⟨[v], conL_mk hv rfl, h4, fun u hu => by cases hu with | head => exact h3 | tail _ hu => cases hu⟩
theorem unK_yes {op : UnOp} {x : AV} {k : AV → Ans} (h : unK P op x k = .yes) : ∃ v, k v = .yes ∧ ∀ β a w, con β x = some a → ∃ u, (Op.unary op a).run P w = .ok u w ∧ con β v = some u := by
  unfold unK at h
  split at h
  · rename_i b
    rw [fBool_eq] at h
    exact ⟨_, h, fun β a w ha => by rw [con_bool ha]; exact ⟨_, rfl, rfl⟩⟩
  · obtain ⟨p, hp, h⟩ := plainK_yes h
    obtain ⟨v, av, h1, h2, h3⟩ := modelK_yes h
    exact ⟨av, h3, fun β a w ha => ⟨v, by rw [plain_con β hp ha]; exact semPure_run h1 w, h2 β⟩⟩
theorem wrapK_yes {q : IntKind} {z : Int} {k : AV → Ans} (h : wrapK q z k = .yes) : ∃ v, k v = .yes ∧ ∀ β, con β v = some (.int q (q.wrap z)) := by
  unfold wrapK at h
  rw [fInt_eq] at h
  obtain ⟨av, h1, h2⟩ := intAV_yes h
  exact ⟨av, h2, h1⟩
theorem knownB_some {t : TypeId} (h : knownB P t = true) : ∃ d, P.underlying t = some d := Option.isSome_iff_exists.1 h
theorem aggB_run {t : TypeId} {d : TypeDesc} (hd : P.underlying t = some d) (w : World) : (isAgg t).run P w = .ok (aggB P t) w := by
  unfold isAgg aggB
  simp only [Sem.run_bind, run_underlying hd, Result.andThen_ok, hd]
  cases d <;> rfl
theorem partK_yes {t : TypeId} {l : List AV} {off : Nat} {k : AV → Ans} (h : partK P t l off k = .yes) : ∃ v, k v = .yes ∧ ∀ β vs w, conL β l = some vs → (∀ u ∈ vs, u.oneCell' = true) → ∃ u, (part t vs.toArray off).run P w = .ok u w ∧ con β v = some u := by
  unfold partK at h
  obtain ⟨h1, h⟩ := cnd_yes h
  obtain ⟨d, hd⟩ := knownB_some h1
  rw [cnd_eq] at h
  split at h
  · rename_i ha
    obtain ⟨i, hi, h⟩ := sizeK_yes h
    rw [dropK_eq, takeK_eq] at h
    refine ⟨_, h, fun β vs w hl h1 => ?_⟩
    refine ⟨.agg ((vs.drop off).take i.size).toArray, ?_, con_agg_mk (conL_take _ (conL_drop _ hl)) (fun u hu => h1 u (List.mem_of_mem_drop (List.mem_of_mem_take hu)))⟩
    unfold part
    simp only [Sem.run_bind, aggB_run hd, Result.andThen_ok, ha, if_true, sizeOf, typeInfo, run_program, hi, Sem.run_pure]
    congr 2
    apply Array.ext'
    simp [List.extract_eq_take_drop]
  · rename_i ha
    obtain ⟨v, hv, h⟩ := nthK_yes h
    refine ⟨v, h, fun β vs w hl h1 => ?_⟩
    obtain ⟨u, h2, h3⟩ := conL_get hl hv
    refine ⟨u, ?_, h3⟩
    unfold part
    simp [Sem.run_bind, aggB_run hd, Result.andThen_ok, ha, h2]
theorem fieldK_yes {s : TypeId} {x : AV} {f : Nat} {k : AV → Ans} (h : fieldK P s x f k = .yes) : ∃ v, k v = .yes ∧ ∀ β a w, con β x = some a → ∃ u, (Instr.field s a f).run P w = .ok u w ∧ con β v = some u := by
  unfold fieldK at h
  split at h
  · rename_i fs l hd
    cases hf : fs[f]? with
    | none => rw [hf] at h; cases h
    | some g =>
      rw [hf] at h
      obtain ⟨v, h1, h2⟩ := partK_yes h
      refine ⟨v, h1, fun β a w ha => ?_⟩
      obtain ⟨vs, h3, rfl, h4⟩ := con_agg ha
      obtain ⟨u, h5, h6⟩ := h2 β vs w h3 h4
      refine ⟨u, ?_, h6⟩
      unfold Instr.field
      simp only [Sem.run_bind, run_underlying hd, Result.andThen_ok, hf, asAgg, Sem.run_pure, h5]
  · cases h
theorem fieldAddrK_yes {s : TypeId} {x : AV} {f : Nat} {k : AV → Ans} (h : fieldAddrK P s x f k = .yes) : ∃ v, k v = .yes ∧ ∀ β a w, con β x = some a → ∃ u, (Instr.fieldAt s a f).run P w = .ok u w ∧ con β v = some u := by
  unfold fieldAddrK at h
  split at h
  · rename_i fs b off hd
    cases hf : fs[f]? with
    | none => rw [hf] at h; cases h
    | some g =>
      rw [hf] at h
      obtain ⟨i, hi, h⟩ := sizeK_yes h
      rw [cnd_eq] at h
      split at h
      · cases h
      · rename_i hz
        rw [fNat_eq] at h
        refine ⟨_, h, fun β a w ha => ?_⟩
        obtain ⟨c, κ, hc, rfl⟩ := con_ptr ha
        refine ⟨.pointer (some ⟨c, off + g.offset, none⟩), ?_, by simp [con, hc]⟩
        have hz' : ¬ i.size = 0 := by simpa using hz
        unfold Instr.fieldAt
        simp only [Sem.run_bind, run_underlying hd, Result.andThen_ok, hf, Instr.sureAddr, Sem.run_pure, fieldPlace, sizeOf, typeInfo, run_program, hi]
        rw [if_neg hz']
        simp only [Sem.run_pure, Result.andThen_ok, Addr.add_lit]
  · cases h
theorem run_index_int {q : IntKind} {i : Int} {w : World} : (asIntOf (.int q i)).run P w = .ok (q, i) w := rfl
theorem indexAddrK_yes {t : TypeId} {x i : AV} {k : AV → Ans} (H : indexAddrK P t x i k = .yes) : ∃ v, k v = .yes ∧ ∀ β a b w, con β x = some a → con β i = some b → ∃ u, (Instr.indexAt t a b).run P w = .ok u w ∧ con β v = some u := by
  unfold indexAddrK at H
  obtain ⟨n, hn, h⟩ := natOf_yes H
  clear H
  split at h
  · rename_i m e b off hd
    obtain ⟨ti, hi, h⟩ := sizeK_yes h
    obtain ⟨hlt, h⟩ := cnd_yes h
    rw [fNat_eq] at h
    have hlt' : n < m := by simpa using hlt
    refine ⟨_, h, fun β a b' w ha hb => ?_⟩
    obtain ⟨c, κ, hc, rfl⟩ := con_ptr ha
    obtain ⟨q, rfl⟩ := hn β b' hb
    refine ⟨.pointer (some ⟨c, off + n * ti.size, none⟩), ?_, by simp [con, hc]⟩
    unfold Instr.indexAt
    simp only [Sem.run_bind, run_index_int, run_underlying hd, Result.andThen_ok, Instr.sureAddr, Sem.run_pure]
    rw [if_pos ⟨by omega, by omega⟩]
    simp [sizeOf, typeInfo, hi, Addr.add_lit]
  · rename_i e b off len ex d hd
    obtain ⟨ti, hi, h⟩ := sizeK_yes h
    obtain ⟨hlt, h⟩ := cnd_yes h
    rw [fNat_eq] at h
    have hlt' : n < len := by simpa using hlt
    refine ⟨_, h, fun β a b' w ha hb => ?_⟩
    obtain ⟨c, κ, hc, rfl⟩ := con_slice ha
    obtain ⟨q, rfl⟩ := hn β b' hb
    refine ⟨.pointer (some ⟨c, off + n * ti.size, none⟩), ?_, by simp [con, hc]⟩
    unfold Instr.indexAt
    simp only [Sem.run_bind, run_index_int, run_underlying hd, Result.andThen_ok, Sem.run_pure]
    rw [if_pos ⟨by omega, by omega⟩]
    simp [sizeOf, typeInfo, hi, Addr.add_lit]
  · cases h
theorem bytesOf_get {l : List Nat} {i c : Nat} (h : l[i]? = some c) : (bytesOf l)[i]? = some (UInt8.ofNat c) := by
  have hi : i < l.length := by
    rcases Nat.lt_or_ge i l.length with h1 | h1
    · exact h1
    · rw [List.getElem?_eq_none h1] at h; cases h
  have : i < (bytesOf l).size := by rw [bytesOf_size]; exact hi
  rw [getElem?_pos (bytesOf l) i this]
  have e : (bytesOf l)[i] = (l.map UInt8.ofNat)[i]'(by simpa using hi) := rfl
  rw [e, List.getElem_map]
  rw [List.getElem?_eq_getElem hi] at h; injection h with h; rw [h]
theorem indexK_yes {t : TypeId} {x i : AV} {k : AV → Ans} (H : indexK P t x i k = .yes) : ∃ v, k v = .yes ∧ ∀ β a b w, con β x = some a → con β i = some b → ∃ u, (Instr.index t a b).run P w = .ok u w ∧ con β v = some u := by
  unfold indexK at H
  obtain ⟨n, hn, h⟩ := natOf_yes H
  clear H
  split at h
  · rename_i m e l hd
    obtain ⟨ti, hi, h⟩ := sizeK_yes h
    obtain ⟨hlt, h⟩ := cnd_yes h
    rw [fNat_eq] at h
    have hlt' : n < m := by simpa using hlt
    obtain ⟨v, h1, h2⟩ := partK_yes h
    refine ⟨v, h1, fun β a b' w ha hb => ?_⟩
    obtain ⟨vs, h3, rfl, h4⟩ := con_agg ha
    obtain ⟨q, rfl⟩ := hn β b' hb
    obtain ⟨u, h5, h6⟩ := h2 β vs w h3 h4
    refine ⟨u, ?_, h6⟩
    unfold Instr.index
    simp only [Sem.run_bind, run_index_int, run_underlying hd, Result.andThen_ok]
    rw [if_pos ⟨by omega, by omega⟩]
    simp only [Sem.run_bind, sizeOf, typeInfo, hi, run_program, Result.andThen_ok, Sem.run_pure, Int.toNat_natCast]
    exact h5
  · rename_i m l hd
    obtain ⟨c, hc, h⟩ := nthK_yes h
    refine ⟨_, h, fun β a b' w ha hb => ?_⟩
    obtain ⟨rfl, h3, h4⟩ := con_str_inv ha
    obtain ⟨q, rfl⟩ := hn β b' hb
    have hc256 : c < 256 := by
      have := List.all_eq_true.1 h4 c (List.mem_iff_getElem?.2 ⟨n, hc⟩)
      simpa using this
    refine ⟨.int .u8 c, ?_, rfl⟩
    unfold Instr.index
    simp only [Sem.run_bind, run_index_int, run_underlying hd, Result.andThen_ok]
    rw [if_pos (by omega), Int.toNat_natCast, bytesOf_get hc]
    simp only [Sem.run_pure]
    rw [show ((UInt8.ofNat c).toNat : Int) = (c : Int) by simp; omega]
  · cases h
end Go.Ev
namespace Go.Ev
variable [Sg]
open Go.RowKit
variable {P : Program}
def Sem1 (P : Program) (f : Value → Sem Value) (x : AV) (h : Hp) (v : AV) (h' : Hp) : Prop :=
  ∀ β w a, HR β h w → con β x = some a → ∃ β' w' u, (f a).run P w = .ok u w' ∧ Stp β h w β' h' w' ∧ con β' v = some u
def Sem2 (P : Program) (f : Value → Value → Sem Value) (x y : AV) (h : Hp) (v : AV) (h' : Hp) : Prop :=
  ∀ β w a b, HR β h w → con β x = some a → con β y = some b → ∃ β' w' u, (f a b).run P w = .ok u w' ∧ Stp β h w β' h' w' ∧ con β' v = some u
theorem Sem1.of_pure {f : Value → Sem Value} {x : AV} {h : Hp} {v : AV} (H : ∀ β a w, con β x = some a → ∃ u, (f a).run P w = .ok u w ∧ con β v = some u) : Sem1 P f x h v h :=
  fun β w a hr ha => let ⟨u, h1, h2⟩ := H β a w ha; ⟨β, w, u, h1, .refl hr, h2⟩
theorem bytesWorld_push (w : World) (e : TypeId) (s : ByteArray) : (Lib.bytesWorld w e s).heap = w.heap.push (.cells (Lib.bytesCells w e s) e ((Lib.bytesCells w e s).size, (Lib.bytesCells w e s).size + 1)) := by
  apply Array.ext_getElem?
  intro i
  rw [Array.getElem?_push]
  by_cases h : i = w.heap.size
  · subst h; rw [if_pos rfl]; exact Lib.bytesWorld_at_new w e s
  · rw [if_neg h]
    by_cases h2 : i < w.heap.size
    · exact Lib.bytesWorld_at_old w e s i h2
    · rw [Array.getElem?_eq_none (by rw [Lib.bytesWorld_size]; omega), Array.getElem?_eq_none (by omega)]
theorem u8L_eq (l : List Nat) (k : List AV → Ans) : (List.rec (motive := fun _ => (List AV → Ans) → Ans) (fun k => k []) (fun c _ ih k => ih fun r => k (.u8 c :: r)) l k : Ans) = k (l.map .u8) := by
  induction l generalizing k with
  | nil => rfl
  | cons c l ih => exact ih _
theorem conL_u8 (β : Bt) : ∀ {l : List Nat}, l.all (· < 256) = true → conL β (l.map .u8) = some (byteCells (bytesOf l))
  | [], _ => rfl
  | c :: l, h => by
    simp only [List.all_cons, Bool.and_eq_true, decide_eq_true_eq] at h
    have e : (bytesOf (c :: l)).data.toList = UInt8.ofNat c :: (bytesOf l).data.toList := rfl
    unfold byteCells
    rw [e, List.map_cons, List.map_cons]
    refine conL_mk ?_ (conL_u8 β h.2)
    show some (Value.int .u8 (c : Int)) = _
    congr 2
    simp; omega
theorem u8sOf_yes {cs : List AV} {k : List Nat → Ans} (h : (List.rec (motive := fun _ => (List Nat → Ans) → Ans) (fun k => k []) (fun c _ ih k => match c with
            | .u8 m => cnd (Nat.blt m 256) (ih fun r => k (m :: r)) (.no 37)
            | _ => .no 38) cs k : Ans) = .yes) : ∃ l : List Nat, cs = l.map .u8 ∧ l.all (· < 256) = true ∧ k l = .yes := by
  induction cs generalizing k with
  | nil => exact ⟨[], rfl, rfl, h⟩
  | cons c cs ih =>
    dsimp only at h
    split at h
    · obtain ⟨h1, h⟩ := cnd_yes h
      obtain ⟨l, rfl, h2, h3⟩ := ih h
      exact ⟨_ :: l, rfl, by simp only [List.all_cons, h2, Bool.and_true, decide_eq_true_eq]; simpa using h1, h3⟩
    · cases h
theorem foldl_push (ns : List Int) : ∀ s : ByteArray, ns.foldl (fun r n => r.push (UInt8.ofNat n.toNat)) s = ⟨s.data ++ (ns.map fun n => UInt8.ofNat n.toNat).toArray⟩ := by
  induction ns with
  | nil => intro s; simp
  | cons n ns ih => intro s; rw [List.foldl_cons, ih]; congr 1; simp [ByteArray.push]
theorem inK_yes {b off : Nat} {h : Hp} {k : TypeId → Nat → Bool → Ans} (H : inK b off h k = .yes) : ∃ e m ex c sz, h.tr.get (path b) = some (.cells e m c ex sz) ∧ off < m ∧ k e m ex = .yes := by
  cases h with
  | mk t n low =>
    unfold inK at H
    obtain ⟨bl, hb, H⟩ := getP_yes H
    cases bl with
    | cells e m c ex sz =>
      obtain ⟨h1, H⟩ := cnd_yes H
      exact ⟨e, m, ex, c, sz, hb, Nat.le_of_ble_eq_true h1, H⟩
    | map es cl => cases H
    | iter l p => cases H
    | miter b s => cases H
theorem convK_yes {src dst : TypeId} {x : AV} {h : Hp} {k : AK} (H : convK P src dst x h k = .yes) : ∃ v h', k v h' = .yes ∧ Sem1 P (convert src dst) x h v h' := by
  unfold convK at H
  split at H
  · rename_i q n hd
    obtain ⟨h1, H⟩ := cnd_yes H
    obtain ⟨d, hs⟩ := knownB_some h1
    obtain ⟨v, h2, h3⟩ := wrapK_yes H
    refine ⟨v, h, h2, .of_pure fun β a w ha => ⟨_, ?_, h3 β⟩⟩
    rw [con_nat ha]
    simp only [convert, Sem.run_bind, run_underlying hs, run_underlying hd, Result.andThen_ok, Conv.intToInt, Sem.run_pure]
    rfl
  · rename_i q n hd
    obtain ⟨h1, H⟩ := cnd_yes H
    obtain ⟨d, hs⟩ := knownB_some h1
    obtain ⟨v, h2, h3⟩ := wrapK_yes H
    refine ⟨v, h, h2, .of_pure fun β a w ha => ⟨_, ?_, h3 β⟩⟩
    rw [con_u8 ha]
    simp only [convert, Sem.run_bind, run_underlying hs, run_underlying hd, Result.andThen_ok, Conv.intToInt, Sem.run_pure]
    rfl
  · rename_i q q' n hd
    obtain ⟨h1, H⟩ := cnd_yes H
    obtain ⟨d, hs⟩ := knownB_some h1
    obtain ⟨v, h2, h3⟩ := wrapK_yes H
    refine ⟨v, h, h2, .of_pure fun β a w ha => ⟨_, ?_, h3 β⟩⟩
    rw [con_int ha]
    simp only [convert, Sem.run_bind, run_underlying hs, run_underlying hd, Result.andThen_ok, Conv.intToInt, Sem.run_pure]
  · rename_i n l hd
    obtain ⟨h1, H⟩ := cnd_yes H
    obtain ⟨d, hs⟩ := knownB_some h1
    refine ⟨_, h, H, .of_pure fun β a w ha => ⟨a, ?_, ha⟩⟩
    rw [(con_str_inv ha).1]
    simp only [convert, Sem.run_bind, run_underlying hs, run_underlying hd, Result.andThen_ok, Sem.run_pure]
  · rename_i e n l hd
    split at H
    · rename_i he
      obtain ⟨h1, H⟩ := cnd_yes H
      obtain ⟨d, hs⟩ := knownB_some h1
      rw [u8L_eq] at H
      cases h with
      | mk t nx low =>
        rw [newK_eq] at H
        refine ⟨_, _, H, fun β w a hr ha => ?_⟩
        obtain ⟨rfl, h3, h4⟩ := con_str_inv ha
        have hc := conL_u8 β h4
        have hcells : Lib.bytesCells w e (bytesOf l) = (byteCells (bytesOf l) ++ List.replicate (grownCap w (bytesOf l).size 0 e - (bytesOf l).size) (Value.int .u8 0)).toArray := by
          unfold Lib.bytesCells byteCells
          apply Array.ext'
          simp
        have hge := grownCap_ge w (bytesOf l).size 0 e
        have hsz : (byteCells (bytesOf l) ++ List.replicate (grownCap w (bytesOf l).size 0 e - (bytesOf l).size) (Value.int .u8 0)).length = grownCap w (bytesOf l).size 0 e := by
          simp only [List.length_append, byteCells_length, List.length_replicate]
          omega
        refine ⟨_, Lib.bytesWorld w e (bytesOf l), _, Lib.run_convert_string_bytes w src dst e (bytesOf l) hs hd he, new_stp (κ := grownCap w (bytesOf l).size 0 e) (fz := (grownCap w (bytesOf l).size 0 e, grownCap w (bytesOf l).size 0 e + 1)) (List.replicate (grownCap w (bytesOf l).size 0 e - (bytesOf l).size) (.int .u8 0)) hr hc (fun u hu => by obtain ⟨b, _, rfl⟩ := List.mem_map.1 hu; rfl) ?_ rfl rfl rfl ?_ (fun h => by cases h) ?_, ?_⟩
        · rw [bytesWorld_push, hcells, List.size_toArray, hsz]
        · intro i hi
          rw [hsz] at hi
          show ¬ (grownCap w (bytesOf l).size 0 e ≤ i ∧ _)
          omega
        · intro _; rw [hsz]; simp
        · rw [con_slice_mk (upd_same ..) (.inr (by rw [bytesOf_size] at *; omega))]
          simp [bytesOf_size, h3]
    · cases H
  · rename_i b off len ex d hd
    split at H
    · rename_i e hs
      split at H
      · rename_i he
        obtain ⟨cs, e', m, c, ex', sz, g1, g2, g3, g4, H⟩ := getK_yes H
        obtain ⟨l, rfl, h2, H⟩ := u8sOf_yes H
        refine ⟨_, h, H, fun β w a hr ha => ?_⟩
        obtain ⟨cb, κ, vs, e1, e2, e3, e4, e5⟩ := cells_of hr g1 g2 g3 g4
        obtain ⟨c', κ', e6, rfl⟩ := con_slice ha
        rw [e1] at e6; injection e6 with e6; injection e6 with e6 e7; subst e6
        rw [conL_u8 β h2] at e2; injection e2 with e2
        have hl : l.length = len := by simpa using g3
        refine ⟨β, w, .string (bytesOf l), ?_, .refl hr, con_str_mk hl.symm h2⟩
        rw [run_convert_bytes_string w src dst e _ _ _ hs he hd, run_bytesToString w _ len _ (l.map fun (n : Nat) => (n : Int))]
        · rw [foldl_push]
          show Result.ok (Value.string ⟨#[] ++ _⟩) w = _
          rw [Array.empty_append, List.map_map]
          congr 2
        · have := run_loadCells_list (P := P) w ⟨cb, off, none⟩ vs (fun j v hv => by rw [Addr.add_lit]; exact e5 j v hv)
          rw [e4] at this
          rw [this, ← e2]
          congr 2
          simp [bytesOf, byteCells, Function.comp_def]
          intro x hx
          have := List.all_eq_true.1 h2 x hx
          simp at this; omega
      · cases H
    · cases H
  · rename_i n c hd
    split at H
    · rename_i e hs
      split at H
      · rename_i he
        refine ⟨_, h, H, .of_pure fun β a w ha => ⟨.string (bytesOf []), ?_, con_str_mk rfl rfl⟩⟩
        rw [(con_raw ha).1, run_convert_bytes_string w src dst e _ _ _ hs he hd]
        rfl
      · cases H
    · cases H
  · rename_i b off hd
    split at H
    · rename_i t hs
      obtain ⟨i, hi, H⟩ := sizeK_yes H
      obtain ⟨h0, H⟩ := cnd_yes H
      obtain ⟨e, m, ex, c, sz, hb, hm, H⟩ := inK_yes H
      refine ⟨_, h, H, fun β w a hr ha => ⟨β, w, a, ?_, .refl hr, ha⟩⟩
      obtain ⟨cb, κ, hβ, rfl⟩ := con_ptr ha
      obtain ⟨-, cb', κ', hβ', cs, fz, g1, -, -, g2, -⟩ := hr.blk b _ hb
      rw [hβ] at hβ'; injection hβ' with hβ'; injection hβ' with e1 e2; subst e1
      have hsh : w.shape? cb = some (e, cs.size) := by simp [World.shape?, g1]
      exact Go.Lib.run_to_unsafe w _ hs hd hi (by have := Nat.le_of_ble_eq_true h0; omega) hsh (Nat.lt_of_lt_of_le hm g2)
    · cases H
  · rename_i u b off hd
    split at H
    · rename_i hs
      obtain ⟨e, m, ex, c, sz, hb, hm, H⟩ := inK_yes H
      obtain ⟨h1, H⟩ := cnd_yes H
      obtain ⟨h2, H⟩ := cnd_yes H
      obtain ⟨i, hi, H⟩ := sizeK_yes H
      refine ⟨_, h, H, fun β w a hr ha => ⟨β, w, a, ?_, .refl hr, ha⟩⟩
      obtain ⟨cb, κ, hβ, rfl⟩ := con_ptr ha
      obtain ⟨-, cb', κ', hβ', cs, fz, g1, -, -, g2, g3, -⟩ := hr.blk b _ hb
      rw [hβ] at hβ'; injection hβ' with hβ'; injection hβ' with e1 e2; subst e1
      have hsh : w.shape? cb = some (e, cs.size) := by simp [World.shape?, g1]
      refine Go.Lib.run_from_unsafe w _ hs hd hi hsh ?_
      rw [g3 h1]; exact h2
    · cases H
  · obtain ⟨p, hp, H⟩ := plainK_yes H
    obtain ⟨v, av, h1, h2, h3⟩ := modelK_yes H
    exact ⟨av, h, h3, .of_pure fun β a w ha => ⟨v, by rw [plain_con β hp ha]; exact semPure_run h1 w, h2 β⟩⟩
end Go.Ev
end
section
namespace Go.Ev
variable [Sg]
open Go.RowKit
variable {P : Program}
theorem loadK_run {t : TypeId} {x : AV} {h : Hp} {k : AV → Ans} (H : loadK P t x h k = .yes) : ∃ v, k v = .yes ∧ ∀ β w a, HR β h w → con β x = some a → ∃ u, (Instr.loadAt t a).run P w = .ok u w ∧ con β v = some u := by
  unfold loadK at H
  split at H
  · rename_i b off
    obtain ⟨h1, H⟩ := cnd_yes H
    obtain ⟨d, hd⟩ := knownB_some h1
    rw [cnd_eq] at H
    split at H
    · rename_i ha
      obtain ⟨i, hi, H⟩ := sizeK_yes H
      obtain ⟨l, e', m, c, ex, sz, g1, g2, g3, g4, H⟩ := getK_yes H
      refine ⟨_, H, fun β w a hr hx => ?_⟩
      obtain ⟨cb, κ, vs, e1, e2, e3, e4, e5⟩ := cells_of hr g1 g2 g3 g4
      obtain ⟨c', κ', e6, rfl⟩ := con_ptr hx
      rw [e1] at e6; injection e6 with e6; injection e6 with e6 e7; subst e6
      refine ⟨.agg vs.toArray, ?_, con_agg_mk e2 e3⟩
      have hl := run_loadCells_list (P := P) w ⟨cb, off, none⟩ vs (fun j v hv => by rw [Addr.add_lit]; exact e5 j v hv)
      rw [e4] at hl
      unfold Instr.loadAt loadVar
      simp only [Sem.run_bind, Instr.sureAddr, Sem.run_pure, Result.andThen_ok, aggB_run hd, ha, if_true, sizeOf, typeInfo, run_program, hi, hl]
    · rename_i ha
      obtain ⟨l, e', m, c, ex, sz, g1, g2, g3, g4, H⟩ := getK_yes H
      obtain ⟨v, hv, H⟩ := nthK_yes H
      refine ⟨_, H, fun β w a hr hx => ?_⟩
      obtain ⟨cb, κ, vs, e1, e2, e3, e4, e5⟩ := cells_of hr g1 g2 g3 g4
      obtain ⟨c', κ', e6, rfl⟩ := con_ptr hx
      rw [e1] at e6; injection e6 with e6; injection e6 with e6 e7; subst e6
      obtain ⟨u, h2, h3⟩ := conL_get e2 hv
      refine ⟨u, ?_, h3⟩
      have hc := e5 0 u h2
      unfold Instr.loadAt loadVar
      simp only [Sem.run_bind, Instr.sureAddr, Sem.run_pure, Result.andThen_ok, aggB_run hd, ha]
      simp only [Bool.false_eq_true, if_false, run_load]
      rw [show w.cell? ⟨cb, off, none⟩ = some u from hc]
  · cases H
theorem loadK_yes {t : TypeId} {x : AV} {h : Hp} {k : AV → Ans} (H : loadK P t x h k = .yes) : ∃ v, k v = .yes ∧ Sem1 P (Instr.loadAt t) x h v h := by
  obtain ⟨v, h1, h2⟩ := loadK_run H
  exact ⟨v, h1, fun β w a hr ha => let ⟨u, e1, e2⟩ := h2 β w a hr ha; ⟨β, w, u, e1, .refl hr, e2⟩⟩
theorem storeK_yes {t : TypeId} {x v : AV} {h : Hp} {k : Hp → Ans} (H : storeK P t x v h k = .yes) :
    ∃ h', k h' = .yes ∧ ∀ β w a b, HR β h w → con β x = some a → con β v = some b → ∃ β' w', (Instr.storeAt t a b).run P w = .ok () w' ∧ Stp β h w β' h' w' := by
  unfold storeK at H
  split at H
  · rename_i b off
    obtain ⟨l, H, hv⟩ := cells_yes H
    rw [lenK_eq] at H
    obtain ⟨i, hi, H⟩ := sizeK_yes H
    obtain ⟨h1, H⟩ := cnd_yes H
    have h1' := Nat.eq_of_beq_eq_true h1
    obtain ⟨t', n, low, e, m, c, ex, sz, rfl, g1, g2, H⟩ := putK_yes H
    refine ⟨_, H, fun β w a u hr hx hu => ?_⟩
    obtain ⟨vs, e1, e2, e3⟩ := hv β u hu
    obtain ⟨cb, κ, f1, f2, f3, f4⟩ := put_stp hr g1 g2 e1 e3
    obtain ⟨c', κ', e6, rfl⟩ := con_ptr hx
    rw [f1] at e6; injection e6 with e6; injection e6 with e6 e7; subst e6
    refine ⟨β, _, ?_, f4⟩
    have hst := run_storeCells_cells (P := P) cb off vs 0 w (by simpa using f2) (by simpa using f3) e3
    simp only [Nat.add_zero] at hst
    have hl := conL_len e1
    unfold Instr.storeAt storeVar
    simp only [Sem.run_bind, Instr.sureAddr, Sem.run_pure, Result.andThen_ok, sizeOf, typeInfo, run_program, hi, e2, List.size_toArray]
    rw [if_neg (by omega)]
    simpa using hst
  · cases H
theorem newRow_of {t : Tr Blk} {n low : Nat} {e : TypeId} {l : List AV} {ex : Bool} {sz : Nat} {β : Bt} {w : World} {vs : List Value} (hr : HR β (.mk t n low) w) (hl : conL β l = some vs) (h1 : ∀ u ∈ vs, u.oneCell' = true) (hex : ex = true) :
    ∃ β' w', (newRow e vs.toArray).run P w = .ok ⟨w.heap.size, 0, none⟩ w' ∧ Stp β (.mk t n low) w β' (.mk (t.set (path n) (some (.cells e l.length (putL l 0 .leaf) ex sz))) (n + 1) low) w' ∧ β' n = some (w.heap.size, 0) := by
  refine ⟨upd β n w.heap.size 0, w.alloc (.cells vs.toArray e), ?_, ?_, upd_same ..⟩
  · rfl
  · exact new_stp (κ := 0) (fz := (0, 0)) [] hr hl h1 (by rw [List.append_nil]; rfl) rfl rfl rfl (fun i hi => by simp) (fun _ => rfl) (fun h => by rw [hex] at h; cases h)
theorem allocK_yes {e : TypeId} {h : Hp} {k : AK} (H : (zeroK P e fun z => sizeK P e fun sz => z.cells fun l => newK e l true sz h fun b h => k (.ptr b 0) h) = .yes) :
    ∃ v h', k v h' = .yes ∧ ∀ β w, HR β h w → ∃ β' w' u, (Instr.alloc e true (.tuple #[])).run P w = .ok u w' ∧ Stp β h w β' h' w' ∧ con β' v = some u := by
  obtain ⟨i, z, av, hi, hz, hc, H⟩ := zeroK_yes H
  obtain ⟨i2, hi2, H⟩ := sizeK_yes H
  obtain ⟨l, H, hv⟩ := cells_yes H
  cases h with
  | mk t n low =>
    rw [newK_eq] at H
    refine ⟨_, _, H, fun β w hr => ?_⟩
    obtain ⟨vs, e1, e2, e3⟩ := hv β z (hc β)
    obtain ⟨β', w', f1, f2, f3⟩ := newRow_of (P := P) (e := e) (sz := i2.size) hr e1 e3 (rfl : true = true)
    refine ⟨β', w', _, ?_, f2, by simp only [con, f3]; rfl⟩
    unfold Instr.alloc zeroValue typeInfo newVar
    simp only [Sem.run_bind, run_program, Result.andThen_ok, hi, hz, Sem.run_pure, e2, f1]
theorem boxK_yes {e : TypeId} {x : AV} {h : Hp} {k : AK} (H : (sizeK P e fun sz => x.cells fun l => newK e l true sz h fun b h => k (.ptr b 0) h) = .yes) :
    ∃ v h', k v h' = .yes ∧ Sem1 P (Instr.box e) x h v h' := by
  obtain ⟨i2, hi2, H⟩ := sizeK_yes H
  obtain ⟨l, H, hv⟩ := cells_yes H
  cases h with
  | mk t n low =>
    rw [newK_eq] at H
    refine ⟨_, _, H, fun β w a hr ha => ?_⟩
    obtain ⟨vs, e1, e2, e3⟩ := hv β a ha
    obtain ⟨β', w', f1, f2, f3⟩ := newRow_of (P := P) (e := e) (sz := i2.size) hr e1 e3 (rfl : true = true)
    refine ⟨β', w', _, ?_, f2, by simp only [con, f3]; rfl⟩
    unfold Instr.box newVar
    simp only [Sem.run_bind, Result.andThen_ok, Sem.run_pure, e2, f1]
def TrR (β : Bt) (c : Tr AV) (cs : Array Value) : Prop := ∀ i, i < cs.size → ∃ av u, c.get (path i) = some av ∧ cs[i]? = some u ∧ con β av = some u ∧ u.oneCell' = true
theorem TrR.putL {β : Bt} {c : Tr AV} {cs : Array Value} (h : TrR β c cs) {l : List AV} {vs : List Value} {off : Nat} (hl : conL β l = some vs) (h1 : ∀ u ∈ vs, u.oneCell' = true) (ho : off + vs.length ≤ cs.size) : TrR β (putL l off c) (setA cs off vs) := by
  intro i hi
  rw [setA_size] at hi
  have hlen := conL_len hl
  rw [get_putL, setA_get vs cs off i ho, hlen]
  by_cases hb : off ≤ i ∧ i < off + vs.length
  · rw [if_pos hb, if_pos hb]
    have hi2 : i - off < l.length := by omega
    obtain ⟨u, u1, u2⟩ := conL_get hl (List.getElem?_eq_getElem hi2)
    exact ⟨_, u, List.getElem?_eq_getElem hi2, u1, u2, h1 u (List.mem_iff_getElem?.2 ⟨_, u1⟩)⟩
  · rw [if_neg hb, if_neg hb]; exact h i hi
theorem TrR.start {β : Bt} {l : List AV} {vs : List Value} (hl : conL β l = some vs) (h1 : ∀ u ∈ vs, u.oneCell' = true) : TrR β (Ev.putL l 0 .leaf) vs.toArray := by
  intro i hi
  have hlen := conL_len hl
  have hi' : i < l.length := by simp at hi; omega
  rw [get_putL, if_pos ⟨Nat.zero_le _, by omega⟩, Nat.sub_zero]
  obtain ⟨u, u1, u2⟩ := conL_get hl (List.getElem?_eq_getElem hi')
  exact ⟨_, u, List.getElem?_eq_getElem hi', by simpa using u1, u2, h1 u (List.mem_iff_getElem?.2 ⟨_, u1⟩)⟩
theorem TrR.read {β : Bt} {c : Tr AV} {cs : Array Value} (h : TrR β c cs) {l : List AV} {n : Nat} (hn : n = cs.size) (hl : l.length = n) (hc : ∀ i, i < n → c.get (path (0 + i)) = l[i]?) : conL β l = some cs.toList ∧ ∀ u ∈ cs.toList, u.oneCell' = true := by
  subst hn
  refine ⟨conL_of (by simpa using hl) (fun i x v hx hv => ?_), fun u hu => ?_⟩
  · have hi : i < cs.size := by
      rcases Nat.lt_or_ge i cs.toList.length with h1 | h1
      · simpa using h1
      · rw [List.getElem?_eq_none h1] at hv; cases hv
    obtain ⟨av, u, a1, a2, a3, -⟩ := h i hi
    have := hc i hi
    rw [Nat.zero_add, a1, hx] at this; injection this with this; subst this
    rw [Array.getElem?_toList, a2] at hv; injection hv with hv; subst hv
    exact a3
  · obtain ⟨i, hi, rfl⟩ := List.getElem_of_mem hu
    obtain ⟨av, u, a1, a2, a3, a4⟩ := h i (by simpa using hi)
    simp only [Array.getElem_toList]
    rw [Array.getElem?_eq_getElem (by simpa using hi)] at a2
    injection a2 with a2; rw [a2]; exact a4
theorem zipIdx_foldl (cs : Array Value) (off : Nat) (vs : Array Value) : vs.zipIdx.foldl (fun cs (c, j) => cs.setIfInBounds (off + j) c) cs = setA cs off vs.toList := by
  have key : ∀ (l : List Value) (k : Nat) (cs : Array Value), (l.zipIdx k).foldl (fun cs (p : Value × Nat) => cs.setIfInBounds (off + p.2) p.1) cs = setA cs (off + k) l := by
    intro l
    induction l with
    | nil => intro k cs; rfl
    | cons v l ih =>
      intro k cs
      rw [List.zipIdx_cons, List.foldl_cons, ih, setA, Nat.add_assoc]
  have := key vs.toList 0 cs
  rw [Nat.add_zero] at this
  rw [← this, ← Array.foldl_toList]
  congr 1
  simp
theorem fillK_yes {place : Nat → (Nat → Nat → Ans) → Ans} {pm : Nat → Option (Nat × Nat)} {size : Nat} (hp : ∀ i r, place i r = .yes → ∃ off n, pm i = some (off, n) ∧ off + n ≤ size ∧ r off n = .yes) :
    ∀ {ps : List Nat} {xs : List AV} {c : Tr AV} {k : Tr AV → Ans}, fillK place ps xs c k = .yes →
      ∃ c', k c' = .yes ∧ ∀ β vs (cs : Array Value), conL β xs = some vs → TrR β c cs → cs.size = size → ∃ cs', Instr.fill pm cs (ps.zip vs) = some cs' ∧ TrR β c' cs' ∧ cs'.size = size := by
  intro ps
  induction ps with
  | nil =>
    intro xs c k H
    exact ⟨c, H, fun β vs cs hx hc hs => ⟨cs, by simp [Instr.fill], hc, hs⟩⟩
  | cons i ps ih =>
    intro xs c k H
    cases xs with
    | nil => cases H
    | cons x xs =>
      obtain ⟨off, n, g1, g2, H⟩ := hp i _ H
      obtain ⟨l, H, hv⟩ := cells_yes H
      rw [lenK_eq] at H
      obtain ⟨h3, H⟩ := cnd_yes H
      have h3' := Nat.eq_of_beq_eq_true h3
      rw [writeL_eq] at H
      obtain ⟨c', a1, a2⟩ := ih H
      refine ⟨c', a1, fun β vs cs hx hc hs => ?_⟩
      obtain ⟨v, us, h1, h2, rfl⟩ := conL_cons hx
      obtain ⟨ws, e1, e2, e3⟩ := hv β v h1
      have hlen := conL_len e1
      obtain ⟨cs', b1, b2, b3⟩ := a2 β us _ h2 (hc.putL (off := off) e1 e3 (by omega)) (by rw [setA_size]; exact hs)
      refine ⟨cs', ?_, b2, b3⟩
      rw [List.zip_cons_cons, Instr.fill, g1]
      dsimp only
      rw [e2, List.size_toArray, zipIdx_foldl]
      rw [if_neg (by simp; omega)]
      exact b1
theorem aggOf_yes {c : Tr AV} {n : Nat} {k : List AV → Ans} (H : readN c n 0 k = .yes) : ∃ l, k l = .yes ∧ ∀ β (cs : Array Value), TrR β c cs → cs.size = n → conL β l = some cs.toList ∧ ∀ u ∈ cs.toList, u.oneCell' = true := by
  obtain ⟨l, h1, h2, h3⟩ := readN_yes H
  exact ⟨l, h3, fun β cs hc hs => hc.read hs.symm h1 h2⟩
def placesOf (P : Program) (fs : List Field) : List (Nat × Nat) := fs.map fun f => (f.offset, ((P.info? f.type).map (·.size)).getD 0)
theorem mapM_sizes (w : World) : ∀ (fs : List Field), (fs.all fun f => (P.info? f.type).isSome) = true → (fs.mapM (fun (f : Field) => do pure (f.offset, ← sizeOf f.type)) : Sem (List (Nat × Nat))).run P w = .ok (placesOf P fs) w
  | [], _ => rfl
  | f :: fs, h => by
    simp only [List.all_cons, Bool.and_eq_true] at h
    obtain ⟨ti, hti⟩ := Option.isSome_iff_exists.1 h.1
    have ih := mapM_sizes w fs h.2
    simp only [List.mapM_cons, Sem.run_bind, sizeOf, typeInfo, run_program, Result.andThen_ok, hti, Sem.run_pure] at ih ⊢
    rw [ih]
    simp [placesOf, hti]
theorem buildK_yes {t : TypeId} {ps : List Nat} {xs : List AV} {k : AV → Ans} (H : buildK P t ps xs k = .yes) :
    ∃ v, k v = .yes ∧ ∀ β w (vs : List Value), conL β xs = some vs → ∃ u, (Instr.build t (ps.zip vs).toArray).run P w = .ok u w ∧ con β v = some u := by
  unfold buildK at H
  obtain ⟨i, z, av, hi, hz, hc, H⟩ := zeroK_yes H
  obtain ⟨zl, H, hv⟩ := cells_yes H
  simp only [lenK_eq, writeL_eq] at H
  split at H
  · rename_i fs hd
    obtain ⟨hall, H⟩ := cnd_yes H
    obtain ⟨c', H, hf⟩ := fillK_yes (pm := fun j => (placesOf P fs.toList).toArray[j]?) (size := zl.length) (fun j r hr => by
      cases hj : fs[j]? with
      | none => rw [hj] at hr; cases hr
      | some f =>
        rw [hj] at hr
        obtain ⟨ti, hti, hr⟩ := sizeK_yes hr
        obtain ⟨h1, hr⟩ := cnd_yes hr
        refine ⟨f.offset, ti.size, ?_, by simpa using h1, hr⟩
        simp [placesOf, hj, hti]) H
    obtain ⟨l, H, hl⟩ := aggOf_yes H
    refine ⟨_, H, fun β w vs hx => ?_⟩
    obtain ⟨zs, e1, e2, e3⟩ := hv β z (hc β)
    have hzl := conL_len e1
    obtain ⟨cs', f1, f2, f3⟩ := hf β vs zs.toArray hx (TrR.start e1 e3) (by simp [hzl])
    obtain ⟨g1, g2⟩ := hl β cs' f2 f3
    refine ⟨.agg cs', ?_, con_agg_mk g1 g2⟩
    have hm := mapM_sizes (P := P) w fs.toList hall
    unfold Instr.build zeroValue typeInfo
    simp only [Sem.run_bind, run_program, Result.andThen_ok, hi, hz, Sem.run_pure, run_underlying hd, Array.mapM_eq_mapM_toList, Sem.run_map]
    rw [hm]
    simp only [Result.andThen_ok, e2, f1, Sem.run_pure]
  · rename_i q e hd
    obtain ⟨ti, hti, H⟩ := sizeK_yes H
    obtain ⟨c', H, hf⟩ := fillK_yes (pm := fun j => some (j * ti.size, ti.size)) (size := zl.length) (fun j r hr => by
      rw [fNat_eq] at hr
      obtain ⟨h1, hr⟩ := cnd_yes hr
      exact ⟨_, _, rfl, by simpa using h1, hr⟩) H
    obtain ⟨l, H, hl⟩ := aggOf_yes H
    refine ⟨_, H, fun β w vs hx => ?_⟩
    obtain ⟨zs, e1, e2, e3⟩ := hv β z (hc β)
    have hzl := conL_len e1
    obtain ⟨cs', f1, f2, f3⟩ := hf β vs zs.toArray hx (TrR.start e1 e3) (by simp [hzl])
    obtain ⟨g1, g2⟩ := hl β cs' f2 f3
    refine ⟨.agg cs', ?_, con_agg_mk g1 g2⟩
    unfold Instr.build zeroValue typeInfo sizeOf typeInfo
    simp only [Sem.run_bind, run_program, Result.andThen_ok, hi, hz, hti, Sem.run_pure, run_underlying hd, e2, f1]
  · cases H
end Go.Ev
namespace Go.Ev
variable [Sg]
open Go.RowKit
variable {P : Program}
theorem repK_eq (n : Nat) (zl : List AV) (k : List AV → Ans) : repK n zl k = k (List.replicate n zl).flatten := by
  induction n generalizing k with
  | zero => rfl
  | succ n ih =>
    show repK n zl (fun r => catK zl r k) = _
    rw [ih, catK_eq, List.replicate_succ, List.flatten_cons]
theorem range_rep (z : Array Value) (hz : 0 < z.size) : ∀ n : Nat, ((List.range (n * z.size)).map fun i => z[i % z.size]!) = (List.replicate n z.toList).flatten
  | 0 => by simp
  | n + 1 => by
    rw [List.replicate_succ', List.flatten_concat, ← range_rep z hz n, Nat.succ_mul, List.range_add, List.map_append, List.map_map]
    congr 1
    apply List.ext_getElem
    · simp
    · intro i h1 h2
      have hi : i < z.size := by simpa using h1
      simp [Function.comp_def, Nat.mod_eq_of_lt hi, hi]
theorem conL_rep {β : Bt} {l : List AV} {vs : List Value} (h : conL β l = some vs) : ∀ n, conL β (List.replicate n l).flatten = some (List.replicate n vs).flatten
  | 0 => rfl
  | n + 1 => by rw [List.replicate_succ, List.flatten_cons, List.replicate_succ, List.flatten_cons]; exact conL_append h (conL_rep h n)
theorem zerosK_yes {e : TypeId} {sz n : Nat} {k : List AV → Ans} (H : zerosK P e sz n k = .yes) :
    ∃ l, k l = .yes ∧ l.length = n * sz ∧ ((n = 0 ∧ l = []) ∨ (0 < n ∧ 0 < sz ∧ ∃ i z, P.info? e = some i ∧ i.zero = some z ∧ z.cells.size = sz ∧ ∀ β, conL β l = some (List.replicate n z.cells.toList).flatten ∧ ∀ u ∈ (List.replicate n z.cells.toList).flatten, u.oneCell' = true)) := by
  cases n with
  | zero => exact ⟨[], H, by simp, .inl ⟨rfl, rfl⟩⟩
  | succ n =>
    obtain ⟨i, z, av, hi, hz, hc, H⟩ := zeroK_yes H
    obtain ⟨zl, H, hv⟩ := cells_yes H
    rw [lenK_eq] at H
    obtain ⟨h1, H⟩ := cnd_yes H
    obtain ⟨h2, H⟩ := cnd_yes H
    rw [repK_eq] at H
    have h1' := Nat.eq_of_beq_eq_true h1
    have h2' : 0 < sz := by simpa using h2
    obtain ⟨vs0, e1, e2, e3⟩ := hv (fun _ => none) z (hc _)
    have hl := conL_len e1
    refine ⟨_, H, by simp [List.length_flatten, h1'], .inr ⟨by omega, h2', i, z, hi, hz, by rw [e2]; simp; omega, fun β => ?_⟩⟩
    obtain ⟨vs, f1, f2, f3⟩ := hv β z (hc β)
    rw [f2]
    refine ⟨conL_rep f1 _, fun u hu => ?_⟩
    obtain ⟨l, hl1, hl2⟩ := List.mem_flatten.1 hu
    rw [(List.mem_replicate.1 hl1).2] at hl2
    exact f3 u (by simpa using hl2)
theorem buildSliceK_yes {t : TypeId} {n : Nat} {ps : List Nat} {xs : List AV} {h : Hp} {k : AK} (H : buildSliceK P t n ps xs h k = .yes) :
    ∃ v h', k v h' = .yes ∧ ∀ β w (vs : List Value), HR β h w → conL β xs = some vs → ∃ β' w' u, (Instr.buildSlice t n (ps.zip vs).toArray).run P w = .ok u w' ∧ Stp β h w β' h' w' ∧ con β' v = some u := by
  unfold buildSliceK at H
  split at H
  · rename_i e hd
    obtain ⟨ti, hti, H⟩ := sizeK_yes H
    obtain ⟨hsm, H⟩ := cnd_yes H
    have hsm' : n * ti.size ≤ 65536 := by simpa using hsm
    obtain ⟨zl, H, hzlen, hz⟩ := zerosK_yes H
    simp only [lenK_eq, writeL_eq] at H
    obtain ⟨c', H, hf⟩ := fillK_yes (pm := fun j => some (j * ti.size, ti.size)) (size := zl.length) (fun j r hr => by
      rw [fNat_eq] at hr
      obtain ⟨h1, hr⟩ := cnd_yes hr
      exact ⟨_, _, rfl, by simpa using h1, hr⟩) H
    obtain ⟨l, H, hl⟩ := aggOf_yes H
    cases h with
    | mk t' nx low =>
      rw [newK_eq] at H
      refine ⟨_, _, H, fun β w vs hr hx => ?_⟩
      have fin : ∀ zs : List Value, conL β zl = some zs → (∀ u ∈ zs, u.oneCell' = true) → (∀ cs', Instr.fill (fun i => some (i * ti.size, ti.size)) zs.toArray (ps.zip vs) = some cs' → (Instr.buildSlice t n (ps.zip vs).toArray).run P w = ((newRow e cs').run P w).andThen fun a w' => .ok (.slice (some a) n n) w') →
          ∃ β' w' u, (Instr.buildSlice t n (ps.zip vs).toArray).run P w = .ok u w' ∧ Stp β (.mk t' nx low) w β' (.mk (t'.set (path nx) (some (.cells e l.length (putL l 0 .leaf) true ti.size))) (nx + 1) low) w' ∧ con β' (.slice nx 0 n true n) = some u := by
        intro zs e1 e2 e3
        have hzl := conL_len e1
        obtain ⟨cs', f1, f2, f3⟩ := hf β vs zs.toArray hx (TrR.start e1 e2) (by simp [hzl])
        obtain ⟨g1, g2⟩ := hl β cs' f2 f3
        obtain ⟨β', w', r1, r2, r3⟩ := newRow_of (P := P) (e := e) (sz := ti.size) hr g1 g2 (rfl : true = true)
        refine ⟨β', w', _, ?_, r2, con_slice_mk r3 (.inl rfl)⟩
        rw [e3 cs' f1, show cs' = cs'.toList.toArray by simp, r1]
        rfl
      rcases hz with ⟨rfl, rfl⟩ | ⟨h0, h1, i, z, hi, hzz, hzs, hb⟩
      · refine fin [] rfl (fun u hu => by cases hu) fun cs' hcs => ?_
        unfold Instr.buildSlice sizeOf typeInfo
        simp only [Sem.run_bind, run_program, Result.andThen_ok, hti, Sem.run_pure, run_underlying hd]
        rw [if_neg (by omega), if_pos (by omega)]
        simp only [Sem.run_bind, Sem.run_pure, Result.andThen_ok]
        rw [show ((Array.range (0 * ti.size)).map fun x => (#[] : Array Value)[x % (#[] : Array Value).size]!) = ([] : List Value).toArray by simp, hcs]
        simp only [Sem.run_bind, Sem.run_pure, Result.andThen_ok]
      · rw [hti] at hi; injection hi with hi; subst hi
        refine fin _ (hb β).1 (hb β).2 fun cs' hcs => ?_
        have hr' : ((Array.range (n * ti.size)).map fun x => z.cells[x % z.cells.size]!) = (List.replicate n z.cells.toList).flatten.toArray := by
          apply Array.ext'
          rw [← range_rep z.cells (by omega) n, hzs]
          simp
        unfold Instr.buildSlice sizeOf zeroValue typeInfo
        simp only [Sem.run_bind, run_program, Result.andThen_ok, hti, Sem.run_pure, run_underlying hd]
        rw [if_neg (by omega), if_neg (Nat.mul_ne_zero (by omega) (by omega))]
        simp only [Sem.run_bind, Sem.run_pure, Result.andThen_ok, run_program, hti, hzz]
        rw [hr', hcs]
        simp only [Sem.run_bind, Sem.run_pure, Result.andThen_ok]
  · cases H
end Go.Ev
end
section
namespace Go.Ev
variable [Sg]
open Go.RowKit
variable {P : Program}
theorem makeSliceK_yes {t : TypeId} {x y : AV} {h : Hp} {k : AK} (H : makeSliceK P t x y h k = .yes) : ∃ v h', k v h' = .yes ∧ Sem2 P (Instr.makeSlice t) x y h v h' := by
  unfold makeSliceK at H
  split at H
  · rename_i e hd
    obtain ⟨n, hn, H⟩ := natOf_yes H
    obtain ⟨c, hc, H⟩ := natOf_yes H
    obtain ⟨ti, hti, H⟩ := sizeK_yes H
    obtain ⟨h1, H⟩ := cnd_yes H
    obtain ⟨h2, H⟩ := cnd_yes H
    obtain ⟨h3, H⟩ := cnd_yes H
    have h1' : n ≤ c := by simpa using h1
    have h2' : c ≤ 65536 := by simpa using h2
    have h3' : ti.bytes ≤ 65536 := by unfold makeSliceK.smallB at h3; rw [hti] at h3; simpa using h3
    obtain ⟨zl, H, hzlen, hz⟩ := zerosK_yes H
    cases h with
    | mk t' nx low =>
      rw [newK_eq] at H
      refine ⟨_, _, H, fun β w a b hr ha hb => ?_⟩
      obtain ⟨q, rfl⟩ := hn β a ha
      obtain ⟨q', rfl⟩ := hc β b hb
      have hwn : IntKind.i64.wrap (n : Int) = n := i64_lit (by omega)
      have hwc : IntKind.i64.wrap (c : Int) = c := i64_lit (by omega)
      have hbb : (ti.bytes : Int) * (c : Int) ≤ 4294967296 := by
        have : ti.bytes * c ≤ 65536 * 65536 := Nat.mul_le_mul h3' h2'
        have e : ((ti.bytes * c : Nat) : Int) = (ti.bytes : Int) * (c : Int) := by simp
        omega
      have fin : ∀ zs : List Value, conL β zl = some zs → (∀ u ∈ zs, u.oneCell' = true) → (Instr.makeSlice t (.int q n) (.int q' c)).run P w = ((newRow e zs.toArray).run P w).andThen (fun a w' => .ok (.slice (some a) n c) w') →
          ∃ β' w' u, (Instr.makeSlice t (.int q n) (.int q' c)).run P w = .ok u w' ∧ Stp β (.mk t' nx low) w β' (.mk (t'.set (path nx) (some (.cells e zl.length (putL zl 0 .leaf) true ti.size))) (nx + 1) low) w' ∧ con β' (.slice nx 0 n true c) = some u := by
        intro zs e1 e2 e3
        obtain ⟨β', w', r1, r2, r3⟩ := newRow_of (P := P) (e := e) (sz := ti.size) hr e1 e2 (rfl : true = true)
        refine ⟨β', w', _, ?_, r2, con_slice_mk r3 (.inl rfl)⟩
        rw [e3, r1]
        rfl
      have hbig : ¬ ((ti.bytes : Int) * (c : Int) > 2 ^ 48) := by
        have : (2 : Int) ^ 48 = 281474976710656 := by decide
        omega
      have hcond : ((((decide ((c : Int) < 0) || decide ((ti.bytes : Int) * (c : Int) > 2 ^ 48)) || decide ((n : Int) < 0)) || decide ((n : Int) > (c : Int))) = true) = False := by
        simp only [Bool.or_eq_true, decide_eq_true_eq, eq_iff_iff, iff_false]
        omega
      rcases hz with ⟨rfl, rfl⟩ | ⟨h0, h1, i, z, hi, hzz, hzs, hb⟩
      · refine fin [] rfl (fun u hu => by cases hu) ?_
        unfold Instr.makeSlice sizeOf typeInfo asInt
        simp only [Sem.run_bind, run_program, Result.andThen_ok, hti, Sem.run_pure, run_underlying hd, run_index_int, hwn, hwc, Sem.run_ite, run_askRoom]
        rw [if_neg (by rw [hcond]; exact id)]
        simp
        rw [show Array.range 0 = #[] from rfl, Array.map_empty]
      · rw [hti] at hi; injection hi with hi; subst hi
        refine fin _ (hb β).1 (hb β).2 ?_
        have hr' : ((Array.range (c * ti.size)).map fun x => z.cells[x % z.cells.size]!) = (List.replicate c z.cells.toList).flatten.toArray := by
          apply Array.ext'
          rw [← range_rep z.cells (by omega) c, hzs]
          simp
        unfold Instr.makeSlice sizeOf zeroValue typeInfo asInt
        simp only [Sem.run_bind, run_program, Result.andThen_ok, hti, Sem.run_pure, run_underlying hd, run_index_int, hwn, hwc, Sem.run_ite, run_askRoom]
        rw [if_neg (by rw [hcond]; exact id)]
        simp only [Int.toNat_natCast]
        rw [if_neg (Nat.mul_ne_zero (by omega) (by omega))]
        simp only [hzz, Sem.run_pure, Result.andThen_ok, hr']
  · cases H
theorem run_bound {x : Value} {q : IntKind} {i y : Nat} {c : BoundsCode} {w : World} (hx : x = .int q i) (h : i ≤ y) : (Instr.sliceBound x y c).run P w = .ok i w := by
  subst hx
  unfold Instr.sliceBound
  simp only [Sem.run_bind, run_index_int, Result.andThen_ok]
  rw [if_pos ⟨by omega, by omega⟩]
  simp
def BdR (x : Option Value) (n d : Nat) : Prop := (x = none ∧ n = d) ∨ ∃ q, x = some (.int q (n : Int))
def OptR (β : Bt) (x : Option AV) (v : Option Value) : Prop := match x, v with | none, none => True | some y, some v => con β y = some v | _, _ => False
theorem bd_of {β : Bt} {x : Option AV} {n d : Nat} (h : (x = none ∧ n = d) ∨ ∃ y, x = some y ∧ ∀ β v, con β y = some v → ∃ q, v = .int q n) {v : Option Value} (hv : OptR β x v) : BdR v n d := by
  rcases h with ⟨rfl, rfl⟩ | ⟨y, rfl, h⟩
  · cases v with
    | none => exact .inl ⟨rfl, rfl⟩
    | some v => exact hv.elim
  · cases v with
    | none => exact hv.elim
    | some v =>
      obtain ⟨q, rfl⟩ := h β v hv
      exact .inr ⟨q, rfl⟩
theorem run_bounds {isS : Bool} {len cap l h m : Nat} {lo hi mx : Option Value} {w : World} (hlo : BdR lo l 0) (hhi : BdR hi h len) (hmx : BdR mx m cap) (h1 : m ≤ cap) (h2 : h ≤ m) (h3 : l ≤ h) (hm : mx.isSome = true → hi.isSome = true) :
    (Instr.sliceBounds isS len cap lo hi mx).run P w = .ok (l, h, m) w := by
  unfold Instr.sliceBounds
  rcases hlo with ⟨rfl, rfl⟩ | ⟨q1, rfl⟩ <;> rcases hhi with ⟨rfl, rfl⟩ | ⟨q2, rfl⟩ <;> rcases hmx with ⟨rfl, rfl⟩ | ⟨q3, rfl⟩ <;>
    first
      | (simp at hm; done)
      | (simp only [Sem.run_bind, Sem.run_pure, Result.andThen_ok, run_bound rfl h1, run_bound rfl h2, run_bound rfl h3])
theorem extract_bytes (l : List Nat) (a b : Nat) (hb : b ≤ l.length) (hab : a ≤ b) : (bytesOf l).extract a b = bytesOf ((l.drop a).take (b - a)) := by
  unfold bytesOf
  apply ByteArray.ext
  simp [ByteArray.extract, ByteArray.copySlice, List.extract_eq_take_drop]
theorem sliceK_yes {t : TypeId} {x : AV} {lo hi mx : Option AV} {k : AV → Ans} (hm : mx.isSome = true → hi.isSome = true) (H : sliceK P t x lo hi mx k = .yes) :
    ∃ v, k v = .yes ∧ ∀ β w a (lo' hi' mx' : Option Value), con β x = some a → OptR β lo lo' → OptR β hi hi' → OptR β mx mx' → ∃ u, (Instr.sliceAt t a lo' hi' mx').run P w = .ok u w ∧ con β v = some u := by
  have hm' : ∀ {β : Bt} {hi' mx' : Option Value}, OptR β hi hi' → OptR β mx mx' → mx'.isSome = true → hi'.isSome = true := by
    intro β hi' mx' h1 h2 h3
    cases mx' with
    | none => cases h3
    | some v =>
      cases mx with
      | none => exact h2.elim
      | some y =>
        have := hm rfl
        cases hi with
        | none => cases this
        | some z =>
          cases hi' with
          | none => exact h1.elim
          | some z' => rfl
  unfold sliceK at H
  split at H
  · rename_i n l hd
    split at H
    · cases H
    · obtain ⟨a, H, ha⟩ := optOf_yes H
      obtain ⟨b, H, hb⟩ := optOf_yes H
      obtain ⟨h1, H⟩ := cnd_yes H
      obtain ⟨h2, H⟩ := cnd_yes H
      have h1' : b ≤ n := by simpa using h1
      have h2' : a ≤ b := by simpa using h2
      simp only [dropK_eq, fNat_eq, takeK_eq] at H
      refine ⟨_, H, fun β w v lo' hi' mx' hv r1 r2 r3 => ?_⟩
      obtain ⟨rfl, h3, h4⟩ := con_str_inv hv
      have e3 : mx' = none := by cases mx' with | none => rfl | some _ => exact r3.elim
      subst e3
      refine ⟨.string ((bytesOf l).extract a b), ?_, ?_⟩
      · have hs := run_bounds (P := P) (isS := false) (len := (bytesOf l).size) (cap := (bytesOf l).size) (w := w) (bd_of ha r1) (by rw [bytesOf_size, ← h3]; exact bd_of hb r2) (mx := none) (m := (bytesOf l).size) (.inl ⟨rfl, rfl⟩) (Nat.le_refl _) (by rw [bytesOf_size]; omega) h2' (by simp)
        unfold Instr.sliceAt
        simp only [Sem.run_bind, run_underlying hd, Result.andThen_ok]
        unfold Instr.slice
        simp only [Sem.run_bind, run_underlying hd, Result.andThen_ok, Option.isSome_none, Bool.false_eq_true, if_false, hs, Sem.run_pure]
      · rw [extract_bytes l a b (by omega) h2']
        refine con_str_mk (by simp; omega) ?_
        rw [List.all_eq_true] at h4 ⊢
        exact fun y hy => h4 y (List.mem_of_mem_drop (List.mem_of_mem_take hy))
  · rename_i e hd
    obtain ⟨ti, hti, H⟩ := sizeK_yes H
    obtain ⟨a, H, ha⟩ := optOf_yes H
    obtain ⟨b, H, hb⟩ := optOf_yes H
    obtain ⟨m, H, hc⟩ := optOf_yes H
    obtain ⟨h1, H⟩ := cnd_yes H
    have h1' := Nat.eq_of_beq_eq_true h1
    obtain rfl : a = 0 := by omega
    obtain rfl : b = 0 := by omega
    obtain rfl : m = 0 := by omega
    refine ⟨_, H, fun β w v lo' hi' mx' hv r1 r2 r3 => ⟨.slice none 0 0, ?_, rfl⟩⟩
    obtain ⟨rfl, -⟩ := con_raw hv
    have hs := run_bounds (P := P) (isS := true) (len := 0) (cap := 0) (w := w) (bd_of ha r1) (bd_of hb r2) (bd_of hc r3) (Nat.le_refl _) (Nat.le_refl _) (Nat.le_refl _) (hm' r2 r3)
    unfold Instr.sliceAt
    simp only [Sem.run_bind, run_underlying hd, Result.andThen_ok]
    unfold Instr.slice
    simp only [Sem.run_bind, run_underlying hd, Result.andThen_ok, hs, sizeOf, typeInfo, run_program, hti, Sem.run_pure]
    rfl
  · rename_i e b off len c hd
    obtain ⟨ti, hti, H⟩ := sizeK_yes H
    obtain ⟨m, H, hc⟩ := optOf_yes H
    obtain ⟨q, H, hb⟩ := optOf_yes H
    obtain ⟨a, H, ha⟩ := optOf_yes H
    obtain ⟨h1, H⟩ := cnd_yes H
    obtain ⟨h2, H⟩ := cnd_yes H
    obtain ⟨h3, H⟩ := cnd_yes H
    have h1' : m ≤ c := by simpa using h1
    have h2' : q ≤ m := by simpa using h2
    have h3' : a ≤ q := by simpa using h3
    simp only [fNat_eq] at H
    have hrun : ∀ β w v lo' hi' mx', con β (.slice b off len true c) = some v → OptR β lo lo' → OptR β hi hi' → OptR β mx mx' → ∃ cb κ, β b = some (cb, κ) ∧ (Instr.sliceAt t v lo' hi' mx').run P w = .ok (.slice (some (if m = a then ⟨cb, off, none⟩ else ⟨cb, off + a * ti.size, none⟩)) (q - a) (m - a)) w := by
      intro β w v lo' hi' mx' hv r1 r2 r3
      obtain ⟨cb, κ, e1, rfl⟩ := con_slice hv
      refine ⟨cb, κ, e1, ?_⟩
      have hs := run_bounds (P := P) (isS := true) (len := len) (cap := c) (w := w) (bd_of ha r1) (bd_of hb r2) (bd_of hc r3) h1' h2' h3' (hm' r2 r3)
      unfold Instr.sliceAt
      simp only [Sem.run_bind, run_underlying hd, Result.andThen_ok]
      unfold Instr.slice
      simp only [Sem.run_bind, run_underlying hd, Result.andThen_ok, if_true, hs, sizeOf, typeInfo, run_program, hti, Sem.run_pure]
      congr 2
      split
      · rfl
      · simp [Addr.add_lit]
    rw [cnd_eq] at H
    split at H
    · rename_i hma
      have hma' := Nat.eq_of_beq_eq_true hma
      refine ⟨_, H, fun β w v lo' hi' mx' hv r1 r2 r3 => ?_⟩
      obtain ⟨cb, κ, e1, e2⟩ := hrun β w v lo' hi' mx' hv r1 r2 r3
      rw [if_pos hma'] at e2
      exact ⟨_, e2, con_slice_mk e1 (.inl rfl)⟩
    · rename_i hma
      have hma' : ¬ m = a := fun e => hma (by rw [e]; exact Nat.beq_refl a)
      refine ⟨_, H, fun β w v lo' hi' mx' hv r1 r2 r3 => ?_⟩
      obtain ⟨cb, κ, e1, e2⟩ := hrun β w v lo' hi' mx' hv r1 r2 r3
      rw [if_neg hma'] at e2
      exact ⟨_, e2, con_slice_mk e1 (.inl rfl)⟩
  · rename_i e b off len c hd
    obtain ⟨ti, hti, H⟩ := sizeK_yes H
    split at H
    · cases H
    obtain ⟨q, H, hb⟩ := optOf_yes H
    obtain ⟨a, H, ha⟩ := optOf_yes H
    obtain ⟨h2, H⟩ := cnd_yes H
    obtain ⟨h3, H⟩ := cnd_yes H
    have h2' : q ≤ len := by simpa using h2
    have h3' : a ≤ q := by simpa using h3
    have hrun : ∀ β w v lo' hi' mx', con β (.slice b off len false c) = some v → OptR β lo lo' → OptR β hi hi' → OptR β none mx' → ∃ cb κ, β b = some (cb, κ) ∧ c + len ≤ κ ∧ (Instr.sliceAt t v lo' hi' mx').run P w = .ok (.slice (some (if κ - c = a then ⟨cb, off, none⟩ else ⟨cb, off + a * ti.size, none⟩)) (q - a) (κ - c - a)) w := by
      intro β w v lo' hi' mx' hv r1 r2 r3
      obtain ⟨cb, κ, e1, rfl, e2⟩ := con_slice' hv
      have e2' : c + len ≤ κ := by rcases e2 with h | h; cases h; exact h
      refine ⟨cb, κ, e1, e2', ?_⟩
      have e3 : mx' = none := by cases mx' with | none => rfl | some _ => exact r3.elim
      subst e3
      have hs := run_bounds (P := P) (isS := true) (len := len) (cap := κ - c) (w := w) (bd_of ha r1) (bd_of hb r2) (mx := none) (m := κ - c) (.inl ⟨rfl, rfl⟩) (Nat.le_refl _) (by omega) h3' (by simp)
      unfold Instr.sliceAt
      simp only [Sem.run_bind, run_underlying hd, Result.andThen_ok]
      unfold Instr.slice
      simp only [Sem.run_bind, run_underlying hd, Result.andThen_ok, Bool.false_eq_true, if_false, hs, sizeOf, typeInfo, run_program, hti, Sem.run_pure]
      congr 2
      split
      · rfl
      · simp [Addr.add_lit]
    rw [cnd_eq] at H
    split at H
    · rename_i hma
      have hma' := Nat.eq_of_beq_eq_true hma
      refine ⟨_, H, fun β w v lo' hi' mx' hv r1 r2 r3 => ?_⟩
      obtain ⟨cb, κ, e1, e3, e2⟩ := hrun β w v lo' hi' mx' hv r1 r2 r3
      refine ⟨_, e2, ?_⟩
      rw [con_slice_mk e1 (.inr (by omega))]
      subst hma'
      simp
    · rename_i hma
      obtain ⟨h4, H⟩ := cnd_yes H
      have h4' : a < len := by simpa using h4
      simp only [fNat_eq] at H
      refine ⟨_, H, fun β w v lo' hi' mx' hv r1 r2 r3 => ?_⟩
      obtain ⟨cb, κ, e1, e3, e2⟩ := hrun β w v lo' hi' mx' hv r1 r2 r3
      rw [if_neg (by omega)] at e2
      refine ⟨_, e2, ?_⟩
      rw [con_slice_mk e1 (.inr (by omega))]
      simp; omega
  · rename_i n e b off hd
    obtain ⟨ti, hti, H⟩ := sizeK_yes H
    obtain ⟨m, H, hc⟩ := optOf_yes H
    obtain ⟨q, H, hb⟩ := optOf_yes H
    obtain ⟨a, H, ha⟩ := optOf_yes H
    obtain ⟨h1, H⟩ := cnd_yes H
    obtain ⟨h2, H⟩ := cnd_yes H
    obtain ⟨h3, H⟩ := cnd_yes H
    have h1' : m ≤ n := by simpa using h1
    have h2' : q ≤ m := by simpa using h2
    have h3' : a ≤ q := by simpa using h3
    simp only [fNat_eq] at H
    have hrun : ∀ β w v lo' hi' mx', con β (.ptr b off) = some v → OptR β lo lo' → OptR β hi hi' → OptR β mx mx' → ∃ cb κ, β b = some (cb, κ) ∧ (Instr.sliceAt t v lo' hi' mx').run P w = .ok (.slice (some (if m = a then ⟨cb, off, none⟩ else ⟨cb, off + a * ti.size, none⟩)) (q - a) (m - a)) w := by
      intro β w v lo' hi' mx' hv r1 r2 r3
      obtain ⟨cb, κ, e1, rfl⟩ := con_ptr hv
      refine ⟨cb, κ, e1, ?_⟩
      have hs := run_bounds (P := P) (isS := false) (len := n) (cap := n) (w := w) (bd_of ha r1) (bd_of hb r2) (bd_of hc r3) h1' h2' h3' (hm' r2 r3)
      unfold Instr.sliceAt
      simp only [Sem.run_bind, run_underlying hd, Result.andThen_ok, Instr.sureAddr, Sem.run_pure, hs, sizeOf, typeInfo, run_program, hti]
      congr 2
      split
      · rfl
      · simp [Addr.add_lit]
    rw [cnd_eq] at H
    split at H
    · rename_i hma
      have hma' := Nat.eq_of_beq_eq_true hma
      refine ⟨_, H, fun β w v lo' hi' mx' hv r1 r2 r3 => ?_⟩
      obtain ⟨cb, κ, e1, e2⟩ := hrun β w v lo' hi' mx' hv r1 r2 r3
      rw [if_pos hma'] at e2
      exact ⟨_, e2, con_slice_mk e1 (.inl rfl)⟩
    · rename_i hma
      have hma' : ¬ m = a := fun e => hma (by rw [e]; exact Nat.beq_refl a)
      refine ⟨_, H, fun β w v lo' hi' mx' hv r1 r2 r3 => ?_⟩
      obtain ⟨cb, κ, e1, e2⟩ := hrun β w v lo' hi' mx' hv r1 r2 r3
      rw [if_neg hma'] at e2
      exact ⟨_, e2, con_slice_mk e1 (.inl rfl)⟩
  · cases H
end Go.Ev
namespace Go.Ev
variable [Sg]
open Go.RowKit
variable {P : Program}
structure SrcR (P : Program) (sz : Nat) (a : Value) (n : Nat) (vs : List Value) (w : World) : Prop where
  len : ∀ w' : World, (Builtin.lenOf a).run P w' = .ok n w'
  cells : ∀ m, m ≤ n → (Builtin.firstCells sz m a).run P w = .ok (vs.take (m * sz)).toArray w
  cellsD : ∀ m, m ≤ n → (Builtin.firstCells sz m a).run P w.drew = .ok (vs.take (m * sz)).toArray w.drew
  newsLen : vs.length = n * sz
  one : ∀ u ∈ vs, u.oneCell' = true
theorem SrcR.src {sz : Nat} {a : Value} {n : Nat} {vs : List Value} {w : World} (h : SrcR P sz a n vs w) {tx : TypeId} (hk : (∃ e', P.underlying tx = some (.slice e')) ∨ P.underlying tx = some .string) : Src P sz tx a n vs w := by
  have e : vs.take (n * sz) = vs := List.take_of_length_le (by rw [h.newsLen]; exact Nat.le_refl _)
  exact ⟨hk, h.len, by rw [h.cells n (Nat.le_refl _), e], by rw [h.cellsD n (Nat.le_refl _), e], h.newsLen, h.one⟩
theorem sourceK_yes {sz : Nat} {x : AV} {h : Hp} {k : Nat → List AV → Ans} (H : sourceK sz x h k = .yes) :
    ∃ n l, k n l = .yes ∧ ∀ β w a, HR β h w → con β x = some a → ∃ vs, conL β l = some vs ∧ SrcR P sz a n vs w := by
  unfold sourceK at H
  split at H
  · rename_i n l
    obtain ⟨h1, H⟩ := cnd_yes H
    obtain rfl := Nat.eq_of_beq_eq_true h1
    rw [u8L_eq] at H
    refine ⟨_, _, H, fun β w a hr ha => ?_⟩
    obtain ⟨rfl, h3, h4⟩ := con_str_inv ha
    have hfc : ∀ m, m ≤ n → ∀ w' : World, (Builtin.firstCells 1 m (.string (bytesOf l))).run P w' = .ok ((byteCells (bytesOf l)).take (m * 1)).toArray w' := by
      intro m hm w'
      simp only [Builtin.firstCells, Sem.run_pure]
      congr 1
      apply Array.ext'
      rw [extract_bytes l 0 m (by omega) (Nat.zero_le _)]
      simp [byteCells, bytesOf]
    refine ⟨_, conL_u8 β h4, ⟨fun w' => ?_, fun m hm => hfc m hm w, fun m hm => hfc m hm _, by rw [byteCells_length, bytesOf_size]; omega, fun u hu => by
      obtain ⟨_, _, rfl⟩ := List.mem_map.1 hu; rfl⟩⟩
    show Result.ok (bytesOf l).size w' = _
    rw [bytesOf_size, h3]
  · rename_i b off n ex d
    simp only [fNat_eq] at H
    obtain ⟨l, e', m, c, ex, sz', g1, g2, g3, g4, H⟩ := getK_yes H
    refine ⟨_, _, H, fun β w a hr ha => ?_⟩
    obtain ⟨cb, κ, vs, e1, e2, e3, e4, e5⟩ := cells_of hr g1 g2 g3 g4
    obtain ⟨c', κ', e6, rfl⟩ := con_slice ha
    rw [e1] at e6; injection e6 with e6; injection e6 with e6 e7; subst e6
    have hfc : ∀ w' : World, (∀ p, w'.cell? p = w.cell? p) → ∀ m, m ≤ n → (Builtin.firstCells sz m (.slice (some ⟨cb, off, none⟩) n (if ex = true then d else κ' - d))).run P w' = .ok (vs.take (m * sz)).toArray w' := by
      intro w' hw' m hm
      have hmn : m * sz ≤ n * sz := Nat.mul_le_mul_right _ hm
      refine run_firstCells_some w' sz m ⟨cb, off, none⟩ n _ (vs.take (m * sz)) (by rw [List.length_take, e4]; omega) fun j v hj => ?_
      rw [Addr.add_lit, hw']
      rw [List.getElem?_take] at hj
      split at hj
      · exact e5 j v hj
      · cases hj
    exact ⟨vs, e2, ⟨fun w' => rfl, hfc w (fun _ => rfl), hfc w.drew (fun p => by simp), e4, e3⟩⟩
  · rename_i n c
    obtain ⟨h1, H⟩ := cnd_yes H
    obtain rfl := Nat.eq_of_beq_eq_true h1
    refine ⟨_, _, H, fun β w a hr ha => ⟨[], rfl, ?_⟩⟩
    obtain ⟨rfl, -⟩ := con_raw ha
    refine ⟨fun w' => rfl, fun m hm => ?_, fun m hm => ?_, by simp, fun u hu => by cases hu⟩
    · simp [Builtin.firstCells]
    · simp [Builtin.firstCells]
  · cases H
theorem append_any {ts : Array TypeId} {t tx ty : TypeId} {s x : Value} (h0 : ts[0]? = some t) (h1 : ts[1]? = some tx) : Builtin.append_ ts ty #[s, x] = Builtin.append_ #[t, tx] ty #[s, x] := by
  unfold Builtin.append_
  rw [h0, h1]
  rfl
theorem zeroCells_len (z : Array Value) (n : Nat) : (Builtin.zeroCells z n).size = n * z.size := by simp [Builtin.zeroCells]
theorem growK_yes {e : TypeId} {sz : Nat} {old new : List AV} {need : Nat} {h : Hp} {k : AK} (H : growK P e sz old new need h k = .yes) :
    ∃ v h' i z, k v h' = .yes ∧ (∀ t n low, h = .mk t n low → v = .slice n 0 need false 0 ∧ h' = .mk (t.set (path n) (some (.cells e (old ++ new).length (putL (old ++ new) 0 .leaf) false sz))) (n + 1) low) ∧ need ≤ 65536 ∧ P.info? e = some i ∧ i.bytes ≤ 65536 ∧ i.zero = some z ∧
      ∀ β w (os ns : List Value) (cap : Nat), HR β h w → conL β old = some os → conL β new = some ns → (∀ u ∈ os, u.oneCell' = true) → (∀ u ∈ ns, u.oneCell' = true) → os.length + ns.length = need * sz → need ≤ cap →
        ∃ β', Stp β h w β' h' (w.drew.alloc (.cells ((os ++ ns).toArray ++ Builtin.zeroCells z.cells (cap - need)) e)) ∧ con β' v = some (.slice (some ⟨w.heap.size, 0, none⟩) need cap) := by
  unfold growK at H
  rw [catK_eq] at H
  obtain ⟨h1, H⟩ := cnd_yes H
  obtain ⟨h2, H⟩ := cnd_yes H
  obtain ⟨i, z, av, hi, hz, hc, H⟩ := zeroK_yes H
  obtain ⟨zl, H, hv⟩ := cells_yes H
  rw [lenK_eq] at H
  obtain ⟨h3, H⟩ := cnd_yes H
  have h1' : need ≤ 65536 := by simpa using h1
  have h3' := Nat.eq_of_beq_eq_true h3
  have h2' : i.bytes ≤ 65536 := by unfold makeSliceK.smallB at h2; rw [hi] at h2; simpa using h2
  cases h with
  | mk t nx low =>
    rw [newK_eq] at H
    refine ⟨_, _, i, z, H, fun t2 n2 low2 e2 => by injection e2 with e3 e4 e5; subst e3; subst e4; subst e5; exact ⟨rfl, rfl⟩, h1', hi, h2', hz, fun β w os ns cap hr ho hn h4 h5 hlen hcap => ?_⟩
    obtain ⟨zs, f1, f2, f3⟩ := hv β z (hc β)
    have hzl := conL_len f1
    have hzs : z.cells.size = sz := by rw [f2]; simp; omega
    refine ⟨upd β nx w.heap.size cap, new_stp (κ := cap) (fz := (0, 0)) (Builtin.zeroCells z.cells (cap - need)).toList hr (conL_append ho hn) (fun u hu => (List.mem_append.1 hu).elim (h4 u) (h5 u)) ?_ rfl rfl rfl (fun i hi => by simp) (fun h => by cases h) (fun _ => ?_), ?_⟩
    · show (w.heap.push _) = _
      congr 2
      apply Array.ext'
      simp
    · have hz2 : (Builtin.zeroCells z.cells (cap - need)).toList.length = (cap - need) * sz := by rw [Array.length_toList, zeroCells_len, hzs]
      rw [List.length_append, List.length_append, hz2, hlen, ← Nat.add_mul]
      congr 1; omega
    · rw [con_slice_mk (upd_same ..) (.inr (by omega))]; simp
theorem srcTy_yes {ts : Array TypeId} (h : srcTy P ts = true) : ∃ tx, ts[1]? = some tx ∧ ((∃ e', P.underlying tx = some (.slice e')) ∨ P.underlying tx = some .string) := by
  unfold srcTy at h
  split at h
  · rename_i e hb
    obtain ⟨tx, h1, h2⟩ := Option.bind_eq_some_iff.1 hb
    exact ⟨tx, h1, .inl ⟨e, h2⟩⟩
  · rename_i hb
    obtain ⟨tx, h1, h2⟩ := Option.bind_eq_some_iff.1 hb
    exact ⟨tx, h1, .inr h2⟩
  · cases h
theorem Stp.moved {β : Bt} {t : Tr Blk} {n low b cb κ : Nat} {w w' : World} {old blk : Blk} (hr : HR β (.mk t n low) w) (hold : t.get (path b) = some old) (hβ : β b = some (cb, κ)) (hsz : w'.heap.size = w.heap.size)
    (hoth : ∀ i, i < w.heap.size → i ≠ cb → w'.heap[i]? = w.heap[i]?) (h1 : w'.os = w.os) (h2 : w'.tape = w.tape) (h3 : w'.output = w.output) (hb : BlkR (upd β n cb κ) κ w'.heap[cb]? blk) :
    Stp β (.mk t n low) w (upd β n cb κ) (.mk ((t.set (path b) none).set (path n) (some blk)) (n + 1) (min low b)) w' := by
  have hlow : low ≤ n := hr.low
  have hbn : b < n := (hr.blk b old hold).1
  have hn : β n = none := hr.fresh n (Nat.le_refl _)
  have hlt : ∀ b x, t.get (path b) = some x → ∃ cb κ', β b = some (cb, κ') ∧ cb < w.heap.size := by
    intro b x hx
    obtain ⟨_, cb, κ', e, hB⟩ := hr.blk b x hx
    refine ⟨cb, κ', e, ?_⟩
    cases x with
    | cells e' len c ex esz => obtain ⟨cs, fz, e2, -⟩ := hB; exact (Array.getElem?_eq_some_iff.1 e2).1
    | map es clock => obtain ⟨ms, e2, -⟩ := hB; exact (Array.getElem?_eq_some_iff.1 e2).1
    | iter l p => exact (Array.getElem?_eq_some_iff.1 hB.1).1
    | miter b s => obtain ⟨_, _, _, e2⟩ := hB; exact (Array.getElem?_eq_some_iff.1 e2).1
  have go : ∀ b' x, ((t.set (path b) none).set (path n) (some blk)).get (path b') = some x → (b' = n ∧ x = blk) ∨ (b' ≠ n ∧ b' ≠ b ∧ t.get (path b') = some x) := by
    intro b' x hx
    rw [get_set, get_set] at hx
    by_cases e1 : b' = n
    · subst e1; rw [if_pos rfl] at hx; injection hx with hx; exact .inl ⟨rfl, hx.symm⟩
    · rw [if_neg (path_ne e1)] at hx
      by_cases e2 : b' = b
      · subst e2; rw [if_pos rfl] at hx; cases hx
      · rw [if_neg (path_ne e2)] at hx; exact .inr ⟨e1, e2, hx⟩
  refine ⟨⟨fun b' x hx => ?_, fun b1 b2 x x' c κ1 κ2 hx hx' e e' => ?_, fun i hi => ?_, ?_⟩, by show n ≤ n + 1; omega, Nat.min_le_left _ _, fun b' hb' => upd_ne (by intro e; subst e; exact Nat.lt_irrefl _ hb'), (fun b' x hb' e => by
    rcases go b' x e with ⟨rfl, -⟩ | ⟨-, -, e⟩
    · exact absurd hb' (Nat.lt_irrefl _)
    · exact ⟨x, e⟩), fun b' c κ' hb' e => ?_, ⟨h1, h2, h3, by omega, fun c hc hne => ?_⟩⟩
  · rcases go b' x hx with ⟨rfl, rfl⟩ | ⟨e1, e2, hx⟩
    · exact ⟨by show b' < b' + 1; omega, cb, κ, upd_same .., hb⟩
    · obtain ⟨h4, cb', κ', e, hB⟩ := hr.blk b' x hx
      have h4' : b' < n := h4
      obtain ⟨cb2, κ2, e2', hcb⟩ := hlt b' x hx
      rw [e] at e2'; injection e2' with e2'; injection e2' with e2' e3; subst e2'
      refine ⟨by show b' < n + 1; omega, cb', κ', by rw [upd_ne e1]; exact e, ?_⟩
      rw [hoth cb' hcb (fun ec => e2 (hr.inj b' b x old cb' κ' κ hx hold e (by rw [ec]; exact hβ)))]
      exact hB.mono (upd_le hn)
  · rcases go b1 x hx with ⟨rfl, rfl⟩ | ⟨e1, e2, gx⟩
    · rcases go b2 x' hx' with ⟨rfl, rfl⟩ | ⟨f1, f2, gx'⟩
      · rfl
      · rw [upd_same] at e; injection e with e; injection e with e _
        rw [upd_ne f1] at e'
        exact absurd (hr.inj b2 b x' old c κ2 κ gx' hold e' (by rw [← e]; exact hβ)) f2
    · rw [upd_ne e1] at e
      rcases go b2 x' hx' with ⟨rfl, rfl⟩ | ⟨f1, f2, gx'⟩
      · rw [upd_same] at e'; injection e' with e'; injection e' with e' _
        exact absurd (hr.inj b1 b x old c κ1 κ gx hold e (by rw [← e']; exact hβ)) e2
      · rw [upd_ne f1] at e'
        exact hr.inj b1 b2 x x' c κ1 κ2 gx gx' e e'
  · have hi' : n + 1 ≤ i := hi
    rw [upd_ne (by omega)]; exact hr.fresh i (show n ≤ i by omega)
  · show min low b ≤ n + 1; omega
  · have hb'' : n ≤ b' := hb'
    by_cases e1 : b' = n
    · subst e1
      rw [upd_same] at e; injection e with e; injection e with e _; subst e
      exact .inr ⟨b, κ, old, Nat.min_le_right low b, hbn, hold, hβ⟩
    · rw [upd_ne e1, hr.fresh b' hb''] at e; cases e
  · refine hoth c hc fun e => ?_
    subst e
    exact hne b κ old (Nat.min_le_right low b) hold hβ
theorem HR.forget {β : Bt} {t : Tr Blk} {n low low' b : Nat} {w : World} (hr : HR β (.mk t n low) w) (hl : low' ≤ low) : HR β (.mk (t.set (path b) none) n low') w := by
  have go : ∀ b' x, (t.set (path b) none).get (path b') = some x → t.get (path b') = some x := by
    intro b' x hx
    rw [get_set] at hx
    by_cases e : path b' = path b
    · rw [if_pos e] at hx; cases hx
    · rw [if_neg e] at hx; exact hx
  exact ⟨fun b' x hx => hr.blk b' x (go b' x hx), fun b1 b2 x x' c κ κ' hx hx' e e' => hr.inj b1 b2 x x' c κ κ' (go b1 x hx) (go b2 x' hx') e e', hr.fresh, Nat.le_trans hl hr.low⟩
theorem Stp.forget {β : Bt} {t : Tr Blk} {n low low' b : Nat} {w : World} (hr : HR β (.mk t n low) w) (hl : low' ≤ low) : Stp β (.mk t n low) w β (.mk (t.set (path b) none) n low') w :=
  ⟨hr.forget hl, Nat.le_refl _, hl, fun _ _ => rfl, (fun b' x _ e => by
    replace e : (t.set (path b) none).get (path b') = some x := e
    rw [get_set] at e
    split at e
    · cases e
    · exact ⟨x, e⟩), (fun b c κ hb e => by rw [hr.fresh b hb] at e; cases e), Kept.refl _ _ _ _⟩
theorem run_first {w : World} {a : Addr} {size n cap : Nat} {os : List Value} (hl : os.length = n * size) (h : ∀ j v, os[j]? = some v → w.cell? (a.add j) = some v) : (Builtin.firstCells size n (.slice (some a) n cap)).run P w.drew = .ok os.toArray w.drew :=
  run_firstCells_some w.drew size n a n cap os hl (fun j v hv => by simpa using h j v hv)
theorem appendK_yes {ts : Array TypeId} {ty : TypeId} {s x : AV} {h : Hp} {k : AK} (H : appendK P ts s x h k = .yes) : ∃ v h', k v h' = .yes ∧ Sem2 P (fun a b => Builtin.append_ ts ty #[a, b]) s x h v h' := by
  unfold appendK at H
  split at H
  · rename_i e hts
    obtain ⟨t, h0, hd⟩ := Option.bind_eq_some_iff.1 hts
    obtain ⟨hsrc, Ha⟩ := cnd_yes H
    obtain ⟨tx, h1, hk⟩ := srcTy_yes hsrc
    obtain ⟨ti, hti, Hb⟩ := sizeK_yes Ha
    obtain ⟨n, new, Hc, hsr⟩ := sourceK_yes (P := P) Hb
    clear H Ha Hb
    have arg : ∀ a b, Builtin.append_ ts ty #[a, b] = Builtin.append_ #[t, tx] ty #[a, b] := fun a b => append_any h0 h1
    have room : ∀ {b off len cap : Nat} {β : Bt} {w : World} {y : Value} {vs : List Value} {cb : Nat}, SrcR P ti.size y n vs w → len + n ≤ cap → (∀ j, j < vs.length → (w.cell? ⟨cb, off + len * ti.size + j, none⟩).isSome = true) → (∀ j, j < vs.length → w.frozen? ⟨cb, off + len * ti.size + j, none⟩ = false) →
        (Builtin.append_ #[t, tx] ty #[.slice (some ⟨cb, off, none⟩) len cap, y]).run P w = .ok (.slice (some ⟨cb, off, none⟩) (len + n) cap) (w.setCells cb (off + len * ti.size) vs) := by
      intro b off len cap β w y vs cb hs hle f2 f3
      exact run_append_room_src (P := P) w t tx ty e ti hd hti cb off len cap y n vs (hs.src hk) hle f2 f3
    have grow : ∀ {old : List AV} {need : Nat} {h : Hp} {k : AK}, growK P e ti.size old new need h k = .yes → ∃ v h', k v h' = .yes ∧
        ∀ β w (base : Option Addr) (len cap : Nat) (os : List Value) (y : Value) (ns : List Value), HR β h w → conL β old = some os → conL β new = some ns → SrcR P ti.size y n ns w → len + n = need → cap < need → os.length = len * ti.size → (∀ u ∈ os, u.oneCell' = true) →
          (Builtin.firstCells ti.size len (.slice base len cap)).run P w.drew = .ok os.toArray w.drew → ∃ β' w' u, (Builtin.append_ #[t, tx] ty #[.slice base len cap, y]).run P w = .ok u w' ∧ Stp β h w β' h' w' ∧ con β' v = some u := by
      intro old need h k H
      obtain ⟨v, h', i, z, H, -, hneed, hi, hby, hz, hall⟩ := growK_yes H
      rw [hti] at hi; injection hi with hi; subst hi
      refine ⟨v, h', H, fun β w base len cap os y ns hr ho hn hs hle hcap hlo h1o hold => ?_⟩
      subst hle
      have hfit : Builtin.nextslicecap (len + n) cap * ti.bytes ≤ 281474976710656 := growslice_fits hcap (by
        have : (len + n) * ti.bytes ≤ 65536 * 65536 := Nat.mul_le_mul hneed hby
        omega)
      obtain ⟨β', g1, g2⟩ := hall β w os ns (grownCap w (len + n) cap e) hr ho hn h1o hs.one (by rw [hlo, hs.newsLen, ← Nat.add_mul]) (grownCap_ge ..)
      exact ⟨β', _, _, run_append_grow_src (P := P) w t tx ty e ti z hd hti hz base len cap os hold y n ns (hs.src hk) hcap (by omega) hfit, g1, g2⟩
    split at Hc
    · rw [cnd_eq] at Hc
      split at Hc
      · rename_i hn0
        have hn0' := Nat.eq_of_beq_eq_true hn0
        subst hn0'
        refine ⟨_, _, Hc, fun β w a b hr ha hb => ?_⟩
        obtain ⟨rfl, -⟩ := con_raw ha
        obtain ⟨vs, e1, hs⟩ := hsr β w b hr hb
        refine ⟨β, w, .slice none 0 0, ?_, .refl hr, rfl⟩
        show (Builtin.append_ ts ty #[_, b]).run P w = _
        rw [arg]
        exact run_append_nothing (P := P) w t tx ty e ti hd hti none 0 0 (Nat.le_refl _) b (by
          obtain rfl : vs = [] := List.eq_nil_of_length_eq_zero (by have := hs.newsLen; omega)
          exact hs.src hk)
      · rename_i hn0
        have hn0' : n ≠ 0 := fun e => hn0 (by rw [e]; rfl)
        obtain ⟨v, h', H, hg⟩ := grow Hc
        refine ⟨v, h', H, fun β w a b hr ha hb => ?_⟩
        obtain ⟨rfl, -⟩ := con_raw ha
        obtain ⟨vs, e1, hs⟩ := hsr β w b hr hb
        obtain ⟨β', w', u, r1, r2, r3⟩ := hg β w none 0 0 [] b vs hr rfl e1 hs (by omega) (by omega) (by simp) (fun u hu => by cases hu) (by simp [Builtin.firstCells])
        exact ⟨β', w', u, by show (Builtin.append_ ts ty #[_, b]).run P w = _; rw [arg]; exact r1, r2, r3⟩
    · rename_i b off len c
      simp only [fNat_eq] at Hc
      rw [cnd_eq] at Hc
      split at Hc
      · rename_i hroom
        have hroom' : len + n ≤ c := by simpa using hroom
        obtain ⟨t', nx, low, e', m, ct, ex, sz', rfl, g1, g2, H⟩ := putK_yes Hc
        refine ⟨_, _, H, fun β w a y hr ha hy => ?_⟩
        obtain ⟨vs, e1, hs⟩ := hsr β w y hr hy
        obtain ⟨cb, κ, f1, f2, f3, f4⟩ := put_stp hr g1 g2 e1 hs.one
        obtain ⟨c', κ', e6, rfl⟩ := con_slice ha
        rw [f1] at e6; injection e6 with e6; injection e6 with e6 e7; subst e6
        refine ⟨β, _, _, ?_, f4, con_slice_mk f1 (.inl rfl)⟩
        show (Builtin.append_ ts ty #[_, y]).run P w = _
        rw [arg]
        exact room (b := b) (β := β) hs hroom' f2 f3
      · rename_i hroom
        have hroom' : c < len + n := by simpa using hroom
        obtain ⟨old, e', m, ct, ex, sz', g1, g2, g3, g4, Hd⟩ := getK_yes Hc
        obtain ⟨v, h', H, hg⟩ := grow Hd
        refine ⟨v, h', H, fun β w a y hr ha hy => ?_⟩
        obtain ⟨vs, e1, hs⟩ := hsr β w y hr hy
        obtain ⟨cb, κ, os, o1, o2, o3, o4, o5⟩ := cells_of hr g1 g2 g3 g4
        obtain ⟨c', κ', e6, rfl⟩ := con_slice ha
        rw [o1] at e6; injection e6 with e6; injection e6 with e6 e7; subst e6
        obtain ⟨β', w', u, r1, r2, r3⟩ := hg β w (some ⟨cb, off, none⟩) len c os y vs hr o2 e1 hs rfl hroom' o4 o3 (run_first o4 (fun j v hv => by rw [Addr.add_lit]; exact o5 j v hv))
        exact ⟨β', w', u, by show (Builtin.append_ ts ty #[_, y]).run P w = _; rw [arg]; exact r1, r2, r3⟩
    · rename_i b off len c
      simp only [fNat_eq] at Hc
      cases h with
      | mk t' nx low =>
        obtain ⟨bl, hbl, Hd⟩ := getP_yes Hc
        clear Hc
        cases bl with
        | map es cl => cases Hd
        | iter l p => cases Hd
        | miter b s => cases Hd
        | cells e' m ct ex sz' =>
          obtain ⟨hok, H⟩ := cnd_yes Hd
          clear Hd
          have hok' : ex = false ∧ sz' = ti.size ∧ 0 < ti.size ∧ off = c * ti.size := by
            unfold appendK.okB at hok
            cases ex with
            | true => cases hok
            | false =>
              have := hok
              simp only [Bool.and_eq_true, Nat.beq_eq, Nat.blt_eq] at this
              exact ⟨rfl, this.1, this.2.1, this.2.2⟩
          obtain ⟨rfl, rfl, hpos, hoff⟩ := hok'
          rw [cnd_eq] at H
          split at H
          · rename_i hin
            have hin' : off + len * ti.size + n * ti.size ≤ m := by simpa using hin
            obtain ⟨t2, nx2, low2, e2, m2, ct2, ex2, sz2, e3, g1, g2, H⟩ := putK_yes H
            injection e3 with e3 e4 e5
            subst e3; subst e4; subst e5
            refine ⟨_, _, H, fun β w a y hr ha hy => ?_⟩
            obtain ⟨vs, e1, hs⟩ := hsr β w y hr hy
            obtain ⟨cb, κ, f1, f2, f3, f4⟩ := put_stp hr g1 g2 e1 hs.one
            obtain ⟨c', κ', e6, rfl, e7⟩ := con_slice' ha
            rw [f1] at e6; injection e6 with e6; injection e6 with e6 e8; subst e6; subst e8
            have hcap : c + (len + n) ≤ κ := by
              obtain ⟨-, cb2, κ2, hβ, cs, fz, q1, q2, q3, q4, q5, q6⟩ := hr.blk b _ hbl
              rw [f1] at hβ; injection hβ with hβ; injection hβ with _ hβ; subst hβ
              have q7 := q6 rfl
              have : (c + (len + n)) * ti.size ≤ κ * ti.size := by
                rw [Nat.add_mul, Nat.add_mul, ← hoff]; omega
              exact Nat.le_of_mul_le_mul_right this hpos
            refine ⟨β, _, _, ?_, f4, con_slice_mk f1 (.inr hcap)⟩
            show (Builtin.append_ ts ty #[_, y]).run P w = _
            rw [arg]
            exact room (b := b) (β := β) hs (by simp; omega) f2 f3
          · obtain ⟨hend, H⟩ := cnd_yes H
            obtain ⟨h00, H⟩ := cnd_yes H
            have hend' := Nat.eq_of_beq_eq_true hend
            have h00' := Nat.eq_of_beq_eq_true h00
            subst h00'
            have hc0 : c = 0 := by
              rcases Nat.mul_eq_zero.1 hoff.symm with h | h
              · exact h
              · omega
            subst hc0
            obtain ⟨hee, H⟩ := cnd_yes H
            have hee' := Nat.eq_of_beq_eq_true hee
            subst hee'
            unfold movedK at H
            obtain ⟨old, e2, m2, ct2, ex2, sz2, g1, g2, g3, g4, H⟩ := getK_yes H
            have g1' : t'.get (path b) = some (.cells e2 m2 ct2 ex2 sz2) := g1
            rw [hbl] at g1'; injection g1' with g1'; injection g1' with q1 q2 q3 q4 q5
            subst q1; subst q2; subst q3; subst q4; subst q5
            rw [natMin_eq, setP_eq] at H
            obtain ⟨v, h', i, z, H, hvh, hneed, hi, hby, hz, hall⟩ := growK_yes H
            rw [hti] at hi; injection hi with hi; subst hi
            obtain ⟨rfl, rfl⟩ := hvh _ _ _ rfl
            rw [Nat.zero_add] at g3 g4 hend'
            refine ⟨_, _, H, fun β w a y hr ha hy => ?_⟩
            obtain ⟨vs, e1, hs⟩ := hsr β w y hr hy
            obtain ⟨cb, κ, os, o1, o2, o3, o4, o5⟩ := cells_of hr hbl (off := 0) (n := len * ti.size) (l := old) (by omega) g3 g4
            obtain ⟨c', κ', e6, rfl, e7⟩ := con_slice' ha
            rw [o1] at e6; injection e6 with e6; injection e6 with e6 e8; subst e6; subst e8
            have harg : ∀ w', (Builtin.append_ ts ty #[.slice (some ⟨cb, 0, none⟩) len (if false = true then 0 else κ - 0), y]).run P w' = (Builtin.append_ #[t, tx] ty #[.slice (some ⟨cb, 0, none⟩) len κ, y]).run P w' := fun w' => by rw [arg]; rfl
            by_cases hcap : len + n ≤ κ
            · obtain ⟨-, cb2, κ2, hβ, cs, fz, p1, p2, p3, p4, p5, p6⟩ := hr.blk b _ hbl
              rw [o1] at hβ; injection hβ with hβ; injection hβ with hβ1 hβ2; subst hβ1; subst hβ2
              have p7 := p6 rfl
              have hfits : len * ti.size + vs.length ≤ cs.size := by
                have : (len + n) * ti.size ≤ κ * ti.size := Nat.mul_le_mul_right _ hcap
                rw [Nat.add_mul] at this
                rw [hs.newsLen]; omega
              have f2 : ∀ j, j < vs.length → (w.cell? ⟨cb, 0 + len * ti.size + j, none⟩).isSome = true := by
                intro j hj
                unfold World.cell?; rw [p1]
                show (cs[0 + len * ti.size + j]?).isSome = true
                rw [Array.getElem?_eq_getElem (by omega)]; rfl
              have f3 : ∀ j, j < vs.length → w.frozen? ⟨cb, 0 + len * ti.size + j, none⟩ = false := by
                intro j hj
                unfold World.frozen?; rw [p1]
                have := p2 (0 + len * ti.size + j) (by omega)
                simp only [Bool.and_eq_false_iff, decide_eq_false_iff_not]
                omega
              have hrun := room (b := b) (β := β) (off := 0) hs hcap f2 f3
              refine ⟨_, _, _, by show (Builtin.append_ ts ty #[_, y]).run P w = _; rw [harg]; exact hrun, Stp.moved hr hbl o1 (setCells_size ..) (fun i hi hne => World.heap_setCells_other w cb _ vs hi hne) (World.os_setCells ..) (setCells_tape ..) (World.output_setCells ..) ?_, ?_⟩
              · rw [Nat.zero_add, setCells_heap vs _ w cb cs _ fz p1]
                have hol : old.length = os.length := conL_len o2
                have hnl : new.length = vs.length := conL_len e1
                refine ⟨_, fz, rfl, fun i hi => p2 i (by rwa [setA_size] at hi), fun i hi => ?_, by rw [setA_size, List.length_append]; omega, (fun h => by cases h), fun _ => by rw [setA_size]; exact p7⟩
                rw [List.length_append] at hi
                rw [get_putL, if_pos ⟨Nat.zero_le _, by rw [List.length_append]; omega⟩, Nat.sub_zero, setA_get vs cs _ i hfits]
                by_cases h5 : i < old.length
                · rw [if_neg (by omega), List.getElem?_append_left h5]
                  obtain ⟨u, u1, u2⟩ := conL_get o2 (List.getElem?_eq_getElem h5)
                  refine ⟨_, u, List.getElem?_eq_getElem h5, ?_, con_mono (upd_le (hr.fresh nx (Nat.le_refl _))) u2, o3 u (List.mem_iff_getElem?.2 ⟨_, u1⟩)⟩
                  have := o5 i u u1
                  unfold World.cell? at this
                  rw [p1] at this
                  simpa using this
                · rw [if_pos (by omega), List.getElem?_append_right (by omega)]
                  have h6 : i - old.length < new.length := by omega
                  obtain ⟨u, u1, u2⟩ := conL_get e1 (List.getElem?_eq_getElem h6)
                  refine ⟨_, u, List.getElem?_eq_getElem h6, ?_, con_mono (upd_le (hr.fresh nx (Nat.le_refl _))) u2, hs.one u (List.mem_iff_getElem?.2 ⟨_, u1⟩)⟩
                  rw [← u1]; congr 1; omega
              · rw [con_slice_mk (upd_same ..) (.inr (by omega))]; rfl
            · have hfit : Builtin.nextslicecap (len + n) κ * ti.bytes ≤ 281474976710656 := growslice_fits (by omega) (by
                have : (len + n) * ti.bytes ≤ 65536 * 65536 := Nat.mul_le_mul hneed hby
                omega)
              have hr2 : HR β (.mk (t'.set (path b) none) nx (min low b)) w := hr.forget (Nat.min_le_left _ _)
              obtain ⟨β', s1, s2⟩ := hall β w os vs (grownCap w (len + n) κ e') hr2 o2 e1 o3 hs.one (by rw [o4, hs.newsLen, ← Nat.add_mul]) (grownCap_ge ..)
              refine ⟨β', _, _, by show (Builtin.append_ ts ty #[_, y]).run P w = _; rw [harg]; exact run_append_grow_src (P := P) w t tx ty e' ti z hd hti hz (some ⟨cb, 0, none⟩) len κ os (run_first o4 (fun j v hv => by rw [Addr.add_lit]; exact o5 j v hv)) y n vs (hs.src hk) (by omega) (by omega) hfit, (Stp.forget hr (Nat.min_le_left _ _)).trans hr s1, s2⟩
    · cases Hc
  · cases H
theorem copyK_yes {ts : Array TypeId} {ty : TypeId} {d x : AV} {h : Hp} {k : AK} (H : copyK P ts d x h k = .yes) : ∃ v h', k v h' = .yes ∧ Sem2 P (fun a b => Builtin.copy_ ts ty #[a, b]) d x h v h' := by
  unfold copyK at H
  split at H
  · rename_i e hts
    obtain ⟨t, h0, hd⟩ := Option.bind_eq_some_iff.1 hts
    obtain ⟨ti, hti, Ha⟩ := sizeK_yes H
    obtain ⟨n, l, Hb, hsr⟩ := sourceK_yes (P := P) Ha
    clear H Ha
    split at Hb
    · rename_i b off len ex c
      simp only [natMin_eq, fNat_eq, takeK_eq] at Hb
      obtain ⟨t', nx, low, e', m, ct, ex', sz', rfl, g1, g2, H⟩ := putK_yes Hb
      refine ⟨_, _, H, fun β w a y hr ha hy => ?_⟩
      obtain ⟨vs, e1, hs⟩ := hsr β w y hr hy
      have e1' := conL_take (min n len * ti.size) e1
      have hone : ∀ u ∈ vs.take (min n len * ti.size), u.oneCell' = true := fun u hu => hs.one u (List.mem_of_mem_take hu)
      obtain ⟨cb, κ, f1, f2, f3, f4⟩ := put_stp hr g1 g2 e1' hone
      obtain ⟨c', κ', e6, rfl⟩ := con_slice ha
      rw [f1] at e6; injection e6 with e6; injection e6 with e6 e7; subst e6
      refine ⟨β, _, .int .i64 ((min n len : Nat) : Int), ?_, f4, rfl⟩
      have hst := run_storeCells_cells (P := P) cb off (vs.take (min n len * ti.size)) 0 w (by simpa using f2) (by simpa using f3) hone
      simp only [Nat.add_zero] at hst
      show (Builtin.copy_ ts ty #[_, y]).run P w = _
      unfold Builtin.copy_
      rw [h0]
      simp only [Sem.run_bind, run_underlying hd, Result.andThen_ok, hs.len, sizeOf, typeInfo, run_program, hti, Sem.run_pure, List.getElem?_toArray, List.getElem?_cons_zero, List.getElem?_cons_succ]
      rw [show Nat.min n len = min n len from rfl, hs.cells _ (Nat.min_le_left _ _)]
      simp only [Result.andThen_ok, hst, goInt]
    · rename_i c'
      refine ⟨_, _, Hb, fun β w a y hr ha hy => ?_⟩
      obtain ⟨vs, e1, hs⟩ := hsr β w y hr hy
      obtain ⟨rfl, -⟩ := con_raw ha
      refine ⟨β, w, .int .i64 0, ?_, .refl hr, rfl⟩
      show (Builtin.copy_ ts ty #[_, y]).run P w = _
      unfold Builtin.copy_
      rw [h0]
      simp only [Sem.run_bind, run_underlying hd, Result.andThen_ok, hs.len, sizeOf, typeInfo, run_program, hti, Sem.run_pure, List.getElem?_toArray, List.getElem?_cons_zero, List.getElem?_cons_succ]
      rw [show Nat.min n 0 = 0 from Nat.min_zero n, hs.cells 0 (Nat.zero_le _)]
      rfl
    · cases Hb
  · cases H
end Go.Ev
end
namespace Go.Ev
section
variable [Sg]
open Go.RowKit
variable {P : Program}
theorem mapEs_yes {b : Nat} {h : Hp} {k : List (AV × AV × Nat) → Nat → Ans} (H : mapEs b h k = .yes) : ∃ es c, h.tr.get (path b) = some (.map es c) ∧ k es c = .yes := by
  cases h with
  | mk t n low =>
    unfold mapEs at H
    obtain ⟨bl, h1, H⟩ := getP_yes H
    cases bl with
    | cells => cases H
    | iter l p => cases H
    | miter b s => cases H
    | map es c => exact ⟨es, c, h1, H⟩
theorem map_of {β : Bt} {h : Hp} {w : World} (hr : HR β h w) {b : Nat} {es : List (AV × AV × Nat)} {c : Nat} (hb : h.tr.get (path b) = some (.map es c)) : ∃ cb κ ms, β b = some (cb, κ) ∧ w.heap[cb]? = some (.map ms c) ∧ EntR β es ms.toList := by
  obtain ⟨-, cb, κ, h1, ms, h2, h3⟩ := hr.blk b _ hb
  exact ⟨cb, κ, ms, h1, h2, h3⟩
theorem run_getMap {w : World} {r : Nat} {ms : Array MapEntry} {c : Nat} (h : w.heap[r]? = some (.map ms c)) : (getObj r).run P w = .ok (.map ms c) w := by
  simp only [getObj, Sem.run, h]
theorem EntR.len {β : Bt} : ∀ {es : List (AV × AV × Nat)} {ms : List MapEntry}, EntR β es ms → es.length = ms.length
  | [], [], _ => rfl
  | [], _ :: _, h => h.elim
  | _ :: _, [], h => h.elim
  | e :: es, m :: ms, ⟨_, _, _, h⟩ => by simp [EntR.len h]
theorem lenOfK_yes {ts : Array TypeId} {t ty : TypeId} (h0 : ts[0]? = some t) {x : AV} {h : Hp} {k : AV → Ans} (H : lenOfK P t x h k = .yes) : ∃ v, k v = .yes ∧ Sem1 P (fun a => Builtin.len_ ts ty #[a]) x h v h := by
  have go : ∀ {x v : AV}, (∀ β w a, HR β h w → con β x = some a → ∃ u, (Builtin.len_ ts ty #[a]).run P w = .ok u w ∧ con β v = some u) → Sem1 P (fun a => Builtin.len_ ts ty #[a]) x h v h :=
    fun H β w a hr ha => let ⟨u, h1, h2⟩ := H β w a hr ha; ⟨β, w, u, h1, .refl hr, h2⟩
  have un : ∀ a, Builtin.len_ ts ty #[a] = Builtin.len_ #[t] ty #[a] := by
    intro a
    unfold Builtin.len_
    rw [h0]
    rfl
  unfold lenOfK at H
  split at H
  · rename_i n l hd
    refine ⟨_, H, go fun β w a hr ha => ?_⟩
    obtain ⟨rfl, h3, h4⟩ := con_str_inv ha
    refine ⟨.int .i64 n, ?_, rfl⟩
    rw [un]
    simp [Builtin.len_, run_underlying hd, bytesOf_size, h3, goInt]
  · rename_i b off n ex d hd
    refine ⟨_, H, go fun β w a hr ha => ?_⟩
    obtain ⟨c, κ, _, rfl⟩ := con_slice ha
    refine ⟨.int .i64 n, ?_, rfl⟩
    rw [un]
    simp [Builtin.len_, run_underlying hd, goInt]
  · rename_i n c hd
    rw [fNat_eq] at H
    refine ⟨_, H, go fun β w a hr ha => ?_⟩
    obtain ⟨rfl, -⟩ := con_raw ha
    refine ⟨.int .i64 n, ?_, rfl⟩
    rw [un]
    simp [Builtin.len_, run_underlying hd, goInt]
  · rename_i n e hd
    rw [fNat_eq] at H
    refine ⟨_, H, go fun β w a hr ha => ?_⟩
    refine ⟨.int .i64 n, ?_, rfl⟩
    rw [un]
    simp [Builtin.len_, run_underlying hd, goInt]
  · rename_i e f hd
    refine ⟨_, H, go fun β w a hr ha => ?_⟩
    obtain ⟨rfl, -⟩ := con_raw ha
    refine ⟨.int .i64 0, ?_, rfl⟩
    rw [un]
    simp [Builtin.len_, run_underlying hd, goInt]
  · rename_i e f b hd
    obtain ⟨es, c, h1, Ha⟩ := mapEs_yes H
    rw [fNat_eq] at Ha
    refine ⟨_, Ha, go fun β w a hr ha => ?_⟩
    obtain ⟨cb, κ, ms, e1, e2, e3⟩ := map_of hr h1
    obtain ⟨c', κ', e4, rfl⟩ := con_map ha
    rw [e1] at e4; injection e4 with e4; injection e4 with e4 _; subst e4
    refine ⟨.int .i64 es.length, ?_, rfl⟩
    rw [un]
    simp [Builtin.len_, run_underlying hd, goInt, run_getMap e2, e3.len]
  · cases H
theorem sameKey_yes {d : TypeDesc} {x y : AV} {k : Bool → Ans} (H : sameKey d x y k = .yes) : ∃ r, k r = .yes ∧ ((∃ q, d = .int q) ∨ d = .string) ∧ ∀ β a b, con β x = some a → con β y = some b → Instr.sameNow d a b = some r ∧ (r = true → a = b ∧ Instr.sameBits 10000 a a = true) := by
  have si : ∀ q z, Instr.sameBits 10000 (.int q z) (.int q z) = true := fun q z => by simp [Instr.sameBits]
  have ss : ∀ z : ByteArray, Instr.sameBits 10000 (.string z) (.string z) = true := fun z => by
    show (z == z) = true
    show (z.data == z.data) = true
    simp
  unfold sameKey at H
  split at H
  · rw [eqNat_eq] at H
    refine ⟨_, H, .inr rfl, fun β a b ha hb => ?_⟩
    obtain ⟨rfl, h1, h2⟩ := con_str_inv ha
    obtain ⟨rfl, h3, h4⟩ := con_str_inv hb
    rename_i n l m r
    have e : (bytesOf l == bytesOf r) = (l == r) := by
      have e0 : (bytesOf l == bytesOf r) = ((bytesOf l).data == (bytesOf r).data) := rfl
      rw [← map_ofNat_eq h2 h4, e0, Bool.eq_iff_iff, beq_iff_eq, beq_iff_eq]
      unfold bytesOf
      constructor
      · intro e; simpa using congrArg Array.toList e
      · intro e; show (l.map UInt8.ofNat).toArray = _; rw [e]
    refine ⟨by simp only [Instr.sameNow, e], fun hr => ?_⟩
    rw [show l = r by simpa using hr]
    exact ⟨rfl, ss _⟩
  · rw [fBool_eq] at H
    refine ⟨_, H, .inl ⟨_, rfl⟩, fun β a b ha hb => ?_⟩
    rw [con_nat ha, con_nat hb]
    exact ⟨by simp [Instr.sameNow, bool_eq_nat], fun hr => by rw [Nat.eq_of_beq_eq_true hr]; exact ⟨rfl, si _ _⟩⟩
  · rw [fBool_eq] at H
    refine ⟨_, H, .inl ⟨_, rfl⟩, fun β a b ha hb => ?_⟩
    rw [con_u8 ha, con_u8 hb]
    exact ⟨by simp [Instr.sameNow, bool_eq_nat], fun hr => by rw [Nat.eq_of_beq_eq_true hr]; exact ⟨rfl, si _ _⟩⟩
  · rename_i q a q' b
    obtain ⟨h1, Ha⟩ := cnd_yes H
    clear H
    have h1' : q = q' := by simpa using h1
    subst h1'
    rw [fBool_eq] at Ha
    refine ⟨_, Ha, .inl ⟨_, rfl⟩, fun β u v ha hb => ?_⟩
    rw [con_int ha, con_int hb]
    exact ⟨by simp only [Instr.sameNow, if_true]; congr 1, fun hr => by rw [show a = b by simpa using hr]; exact ⟨rfl, si _ _⟩⟩
  · cases H
theorem findK_yes {d : TypeDesc} {x : AV} {es : List (AV × AV × Nat)} {no : Ans} {k : AV → Ans} (H : findK d x es no k = .yes) :
    (no = .yes ∧ ∀ β a ms i, con β x = some a → EntR β es ms → Instr.findNow d a ms i = some none) ∨
    (∃ v, k v = .yes ∧ ∀ β a ms i, con β x = some a → EntR β es ms → ∃ j u, Instr.findNow d a ms i = some (some (j, u)) ∧ con β v = some u) := by
  induction es with
  | nil =>
    refine .inl ⟨H, fun β a ms i ha he => ?_⟩
    cases ms with
    | nil => rfl
    | cons m ms => exact he.elim
  | cons e es ih =>
    obtain ⟨r, H, -, hr⟩ := sameKey_yes H
    cases r with
    | true =>
      refine .inr ⟨_, H, fun β a ms i ha he => ?_⟩
      cases ms with
      | nil => exact he.elim
      | cons m ms =>
        obtain ⟨h1, h2, h3, h4⟩ := he
        refine ⟨i, m.val, ?_, h2⟩
        unfold Instr.findNow
        rw [(hr β a m.key ha h1).1]
    | false =>
      rcases ih H with ⟨hn, hg⟩ | ⟨v, hv, hg⟩
      · refine .inl ⟨hn, fun β a ms i ha he => ?_⟩
        cases ms with
        | nil => exact he.elim
        | cons m ms =>
          obtain ⟨h1, h2, h3, h4⟩ := he
          unfold Instr.findNow
          rw [(hr β a m.key ha h1).1]
          exact hg β a ms (i + 1) ha h4
      · refine .inr ⟨v, hv, fun β a ms i ha he => ?_⟩
        cases ms with
        | nil => exact he.elim
        | cons m ms =>
          obtain ⟨h1, h2, h3, h4⟩ := he
          unfold Instr.findNow
          rw [(hr β a m.key ha h1).1]
          exact hg β a ms (i + 1) ha h4
theorem run_checkKey {q : TypeId} {d : TypeDesc} (hd : P.underlying q = some d) (hk : (∃ i, d = .int i) ∨ d = .string) (em : Bool) (a : Value) (w : World) : (Instr.checkKey em 10000 q a).run P w = .ok () w := by
  show (Instr.checkKey em (9999 + 1) q a).run P w = _
  rw [Instr.checkKey]
  simp only [Sem.run_bind, run_underlying hd, Result.andThen_ok]
  rcases hk with ⟨i, rfl⟩ | rfl <;> rfl
theorem keyOk_yes {d : TypeDesc} (h : keyOk d = true) : (∃ i, d = .int i) ∨ d = .string := by
  unfold keyOk at h
  split at h
  · exact .inl ⟨_, rfl⟩
  · exact .inr rfl
  · cases h
theorem lookupK_yes {t : TypeId} {x i : AV} {ok : Bool} {h : Hp} {k : AV → Ans} (H : lookupK P t x i ok h k = .yes) : ∃ v, k v = .yes ∧ Sem2 P (fun a b => Instr.lookup t a b ok) x i h v h := by
  unfold lookupK at H
  split at H
  · rename_i q e hd
    have fin : ∀ {v : AV} {b : Bool}, cnd ok (k (.tup [v, .bool b])) (k v) = .yes → ∃ v', k v' = .yes ∧ ∀ β u, con β v = some u → con β v' = some (if ok = true then .tuple #[u, .bool b] else u) := by
      intro v b H
      rw [cnd_eq] at H
      split at H
      · rename_i hok
        refine ⟨_, H, fun β u hu => ?_⟩
        rw [if_pos hok]
        simp only [con]
        rw [conL_mk hu (conL_mk (by simp only [con] : con β (.bool b) = some (.bool b)) rfl)]
        rfl
      · rename_i hok
        exact ⟨_, H, fun β u hu => by rw [if_neg hok]; exact hu⟩
    dsimp only at H
    split at H
    · rename_i d hq
      obtain ⟨hk, Ha⟩ := cnd_yes H
      obtain ⟨ti, z, av, hi, hz, hc, Hb⟩ := zeroK_yes Ha
      obtain ⟨v, hv, hcon⟩ := fin Hb
      refine ⟨v, hv, fun β w a b hr ha hb => ?_⟩
      obtain ⟨rfl, -⟩ := con_raw ha
      refine ⟨β, w, _, ?_, .refl hr, hcon β z (hc β)⟩
      show (Instr.lookup t _ b ok).run P w = _
      unfold Instr.lookup
      simp only [Sem.run_bind, run_underlying hd, Result.andThen_ok, Sem.run_pure, run_checkKey hq (keyOk_yes hk), Instr.findKey, run_underlying hq, zeroValue, typeInfo, run_program, hi, hz]
      have hf : ∀ i, Instr.findNow d b (#[] : Array MapEntry).toList i = some none := fun i => rfl
      rw [hf]
      simp only [Sem.run_pure, Result.andThen_ok, Sem.run_bind, run_program, hi, hz]
    · rename_i b d hq
      obtain ⟨hk, Ha⟩ := cnd_yes H
      obtain ⟨es, c, h1, Hb⟩ := mapEs_yes Ha
      rcases findK_yes Hb with ⟨Hc, hf⟩ | ⟨v0, Hc, hf⟩
      · obtain ⟨ti, z, av, hi, hz, hc, Hd⟩ := zeroK_yes Hc
        obtain ⟨v, hv, hcon⟩ := fin Hd
        refine ⟨v, hv, fun β w a y hr ha hy => ?_⟩
        obtain ⟨cb, κ, ms, e1, e2, e3⟩ := map_of hr h1
        obtain ⟨c', κ', e4, rfl⟩ := con_map ha
        rw [e1] at e4; injection e4 with e4; injection e4 with e4 _; subst e4
        refine ⟨β, w, _, ?_, .refl hr, hcon β z (hc β)⟩
        show (Instr.lookup t _ y ok).run P w = _
        unfold Instr.lookup
        simp only [Sem.run_bind, run_underlying hd, Result.andThen_ok, Sem.run_pure, run_getMap e2, run_checkKey hq (keyOk_yes hk), Instr.findKey, run_underlying hq]
        rw [hf β y _ 0 hy e3]
        simp only [Sem.run_pure, Result.andThen_ok, Sem.run_bind, zeroValue, typeInfo, run_program, hi, hz]
      · obtain ⟨v, hv, hcon⟩ := fin Hc
        refine ⟨v, hv, fun β w a y hr ha hy => ?_⟩
        obtain ⟨cb, κ, ms, e1, e2, e3⟩ := map_of hr h1
        obtain ⟨c', κ', e4, rfl⟩ := con_map ha
        rw [e1] at e4; injection e4 with e4; injection e4 with e4 _; subst e4
        obtain ⟨j, u, f1, f2⟩ := hf β y _ 0 hy e3
        refine ⟨β, w, _, ?_, .refl hr, hcon β u f2⟩
        show (Instr.lookup t _ y ok).run P w = _
        unfold Instr.lookup
        simp only [Sem.run_bind, run_underlying hd, Result.andThen_ok, Sem.run_pure, run_getMap e2, run_checkKey hq (keyOk_yes hk), Instr.findKey, run_underlying hq]
        rw [f1]
        rfl
    · cases H
  · cases H
theorem setEs_yes {d : TypeDesc} {x v : AV} {es : List (AV × AV × Nat)} {no : Ans} {k : List (AV × AV × Nat) → Ans} (H : setEs d x v es no k = .yes) :
    (no = .yes ∧ ∀ β a ms i, con β x = some a → EntR β es ms → Instr.findNow d a ms i = some none) ∨
    (∃ es', k es' = .yes ∧ ∀ β a b ms i, con β x = some a → con β v = some b → EntR β es ms → ∃ j u m, Instr.findNow d a ms i = some (some (i + j, u)) ∧ ms[j]? = some m ∧ m.key = a ∧ Instr.sameBits 10000 a a = true ∧ EntR β es' (ms.modify j fun e => { e with key := a, val := b })) := by
  induction es generalizing k with
  | nil =>
    refine .inl ⟨H, fun β a ms i ha he => ?_⟩
    cases ms with
    | nil => rfl
    | cons m ms => exact he.elim
  | cons e es ih =>
    obtain ⟨r, Ha, -, hr⟩ := sameKey_yes H
    clear H
    cases r with
    | true =>
      refine .inr ⟨_, Ha, fun β a b ms i ha hb he => ?_⟩
      cases ms with
      | nil => exact he.elim
      | cons m ms =>
        obtain ⟨h1, h2, h3, h4⟩ := he
        obtain ⟨g1, g2⟩ := hr β a m.key ha h1
        refine ⟨0, m.val, m, ?_, rfl, (g2 rfl).1.symm, (g2 rfl).2, ?_⟩
        · unfold Instr.findNow; rw [g1]; rfl
        · rw [List.modify_zero_cons]
          exact ⟨by rw [h1, (g2 rfl).1], hb, h3, h4⟩
    | false =>
      rcases ih Ha with ⟨hn, hg⟩ | ⟨es', hv, hg⟩
      · refine .inl ⟨hn, fun β a ms i ha he => ?_⟩
        cases ms with
        | nil => exact he.elim
        | cons m ms =>
          obtain ⟨h1, h2, h3, h4⟩ := he
          unfold Instr.findNow
          rw [(hr β a m.key ha h1).1]
          exact hg β a ms (i + 1) ha h4
      · refine .inr ⟨_, hv, fun β a b ms i ha hb he => ?_⟩
        cases ms with
        | nil => exact he.elim
        | cons m ms =>
          obtain ⟨h1, h2, h3, h4⟩ := he
          obtain ⟨j, u, m', f1, f2, f3, f5, f4⟩ := hg β a b ms (i + 1) ha hb h4
          refine ⟨j + 1, u, m', ?_, by simpa using f2, f3, f5, ?_⟩
          · unfold Instr.findNow
            rw [(hr β a m.key ha h1).1]
            rw [show i + (j + 1) = i + 1 + j by omega]; exact f1
          · rw [List.modify_succ_cons]
            exact ⟨h1, h2, h3, f4⟩
theorem EntR.append {β : Bt} : ∀ {es : List (AV × AV × Nat)} {ms : List MapEntry} {e : AV × AV × Nat} {m : MapEntry}, EntR β es ms → con β e.1 = some m.key → con β e.2.1 = some m.val → m.born = e.2.2 → EntR β (es ++ [e]) (ms ++ [m])
  | [], [], e, m, _, h1, h2, h3 => ⟨h1, h2, h3, trivial⟩
  | [], _ :: _, _, _, h, _, _, _ => h.elim
  | _ :: _, [], _, _, h, _, _, _ => h.elim
  | a :: es, b :: ms, e, m, ⟨g1, g2, g3, g4⟩, h1, h2, h3 => ⟨g1, g2, g3, EntR.append g4 h1 h2 h3⟩
theorem run_setMap {w : World} {r : Nat} {ms : Array MapEntry} {c : Nat} (o : Obj) (h : w.heap[r]? = some (.map ms c)) : (setObj r o).run P w = .ok () { w with heap := w.heap.setIfInBounds r o } := by
  simp only [setObj, Sem.run, h]
theorem run_stays {a : Value} (h : Instr.sameBits 10000 a a = true) (w : World) : (Instr.keyThatStays a a).run P w = .ok a w := by
  unfold Instr.keyThatStays
  rw [if_pos h]
  rfl
theorem updateK_yes {t : TypeId} {x i v : AV} {h : Hp} {k : Hp → Ans} (H : updateK P t x i v h k = .yes) :
    ∃ h', k h' = .yes ∧ ∀ β w a b c, HR β h w → con β x = some a → con β i = some b → con β v = some c → ∃ β' w', (Instr.mapUpdate t a b c).run P w = .ok () w' ∧ Stp β h w β' h' w' := by
  unfold updateK at H
  split at H
  · rename_i q e hd
    split at H
    · rename_i b d t' n low hq
      obtain ⟨hk, Ha⟩ := cnd_yes H
      obtain ⟨es, c, h1, Hb⟩ := mapEs_yes Ha
      have h1' : t'.get (path b) = some (.map es c) := h1
      have fin : ∀ {es' : List (AV × AV × Nat)} {c' : Nat}, (t'.setP (path b) (some (.map es' c')) fun t => natMin low b fun low => k (.mk t n low)) = .yes → k (.mk (t'.set (path b) (some (.map es' c'))) n (min low b)) = .yes := by
        intro es' c' H
        rw [setP_eq, natMin_eq] at H; exact H
      rcases setEs_yes Hb with ⟨Hc, hf⟩ | ⟨es', Hc, hf⟩
      · rw [catE_eq, fNat_eq] at Hc
        refine ⟨_, fin Hc, fun β w a y u hr ha hy hu => ?_⟩
        obtain ⟨cb, κ, ms, e1, e2, e3⟩ := map_of hr h1
        obtain ⟨c', κ', e4, rfl⟩ := con_map ha
        rw [e1] at e4; injection e4 with e4; injection e4 with e4 _; subst e4
        have hlt : cb < w.heap.size := (Array.getElem?_eq_some_iff.1 e2).1
        refine ⟨β, _, ?_, Stp.set_block hr h1' e1 (w' := { w with heap := w.heap.setIfInBounds cb (.map (ms.push { key := y, val := u, born := c }) (c + 1)) }) (by simp) (fun i hi hne => by simp [Array.getElem?_setIfInBounds, hne.symm]) rfl rfl rfl ⟨ms.push { key := y, val := u, born := c }, ?_, ?_⟩⟩
        · unfold Instr.mapUpdate
          simp only [Sem.run_bind, run_underlying hd, Result.andThen_ok, run_getMap e2, run_checkKey hq (keyOk_yes hk), Instr.findKey, run_underlying hq]
          rw [hf β y _ 0 hy e3]
          simp only [Sem.run_pure, Result.andThen_ok, run_setMap _ e2]
        · simp [Array.getElem?_setIfInBounds, hlt]
        · rw [Array.toList_push]
          exact e3.append hy hu rfl
      · refine ⟨_, fin Hc, fun β w a y u hr ha hy hu => ?_⟩
        obtain ⟨cb, κ, ms, e1, e2, e3⟩ := map_of hr h1
        obtain ⟨c', κ', e4, rfl⟩ := con_map ha
        rw [e1] at e4; injection e4 with e4; injection e4 with e4 _; subst e4
        have hlt : cb < w.heap.size := (Array.getElem?_eq_some_iff.1 e2).1
        obtain ⟨j, uu, m, f1, f2, f3, f5, f4⟩ := hf β y u ms.toList 0 hy hu e3
        rw [Nat.zero_add] at f1
        refine ⟨β, _, ?_, Stp.set_block hr h1' e1 (w' := { w with heap := w.heap.setIfInBounds cb (.map (ms.modify j fun e => { e with key := y, val := u }) c) }) (by simp) (fun i hi hne => by simp [Array.getElem?_setIfInBounds, hne.symm]) rfl rfl rfl ⟨ms.modify j fun e => { e with key := y, val := u }, ?_, ?_⟩⟩
        · unfold Instr.mapUpdate
          simp only [Sem.run_bind, run_underlying hd, Result.andThen_ok, run_getMap e2, run_checkKey hq (keyOk_yes hk), Instr.findKey, run_underlying hq]
          rw [f1]
          have f2' : ms[j]? = some m := by simpa using f2
          simp only [Sem.run_pure, Result.andThen_ok, Sem.run_bind, f2', Option.map_some, Option.getD_some, f3, run_stays f5, run_setMap _ e2]
        · simp [Array.getElem?_setIfInBounds, hlt]
        · rw [Array.toList_modify]
          exact f4
    · cases H
  · cases H
theorem newMapK_yes {h : Hp} {k : AK} (H : newMapK h k = .yes) : ∃ v h', k v h' = .yes ∧ ∀ β w, HR β h w → ∃ β' w' u, (do Pure.pure (Value.map (some (← newObj (.map #[] 0)))) : Sem Value).run P w = .ok u w' ∧ Stp β h w β' h' w' ∧ con β' v = some u := by
  cases h with
  | mk t n low =>
    unfold newMapK at H
    simp only [setP_eq, fNat_eq] at H
    refine ⟨_, _, H, fun β w hr => ⟨upd β n w.heap.size 0, w.alloc (.map #[] 0), .map (some w.heap.size), rfl, Stp.new_block hr (.map #[] 0) 0 (.map [] 0) rfl rfl rfl rfl ⟨#[], rfl, trivial⟩, ?_⟩⟩
    simp only [con, upd_same]; rfl
end
end Go.Ev
