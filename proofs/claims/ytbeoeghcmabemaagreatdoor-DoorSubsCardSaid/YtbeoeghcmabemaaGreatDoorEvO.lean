/- The evaluator's operations are the model's: lengths, maps, what is built in. -/
import Derived.Test.YtbeoeghcmabemaaGreatDoorEvN
set_option linter.unusedVariables false
set_option linter.unusedSectionVars false
set_option linter.unusedSimpArgs false
namespace Go.Ev
variable [Sg]
open Go.RowKit
variable {P : Program}

theorem mapEs_yes {b : Nat} {h : Hp} {k : List (AV × AV × Nat) → Nat → Ans} (H : mapEs b h k = .yes) : ∃ es c, h.tr.get (path b) = some (.map es c) ∧ k es c = .yes := by
  cases h with
  | mk t n low =>
    unfold mapEs at H
    obtain ⟨bl, h1, H⟩ := getP_yes H
    cases bl with
    | cells => cases H
    | iter l p => cases H
    | miter b s => cases H
    | map es c => exact ⟨es, c, h1, H⟩
theorem map_of {β : Bt} {h : Hp} {w : World} (hr : HR β h w) {b : Nat} {es : List (AV × AV × Nat)} {c : Nat} (hb : h.tr.get (path b) = some (.map es c)) : ∃ cb κ ms, β b = some (cb, κ) ∧ w.heap[cb]? = some (.map ms c) ∧ EntR β es ms.toList := by
  obtain ⟨-, cb, κ, h1, ms, h2, h3⟩ := hr.blk b _ hb
  exact ⟨cb, κ, ms, h1, h2, h3⟩
theorem run_getMap {w : World} {r : Nat} {ms : Array MapEntry} {c : Nat} (h : w.heap[r]? = some (.map ms c)) : (getObj r).run P w = .ok (.map ms c) w := by
  simp only [getObj, Sem.run, h]
theorem EntR.len {β : Bt} : ∀ {es : List (AV × AV × Nat)} {ms : List MapEntry}, EntR β es ms → es.length = ms.length
  | [], [], _ => rfl
  | [], _ :: _, h => h.elim
  | _ :: _, [], h => h.elim
  | e :: es, m :: ms, ⟨_, _, _, h⟩ => by simp [EntR.len h]
theorem lenOfK_yes {ts : Array TypeId} {t ty : TypeId} (h0 : ts[0]? = some t) {x : AV} {h : Hp} {k : AV → Ans} (H : lenOfK P t x h k = .yes) : ∃ v, k v = .yes ∧ Sem1 P (fun a => Builtin.len_ ts ty #[a]) x h v h := by
  have go : ∀ {x v : AV}, (∀ β w a, HR β h w → con β x = some a → ∃ u, (Builtin.len_ ts ty #[a]).run P w = .ok u w ∧ con β v = some u) → Sem1 P (fun a => Builtin.len_ ts ty #[a]) x h v h :=
    fun H β w a hr ha => let ⟨u, h1, h2⟩ := H β w a hr ha; ⟨β, w, u, h1, .refl hr, h2⟩
  have un : ∀ a, Builtin.len_ ts ty #[a] = Builtin.len_ #[t] ty #[a] := by
    intro a
    unfold Builtin.len_
    rw [h0]
    rfl
  unfold lenOfK at H
  split at H
  · rename_i n l hd
    refine ⟨_, H, go fun β w a hr ha => ?_⟩
    obtain ⟨rfl, h3, h4⟩ := con_str_inv ha
    refine ⟨.int .i64 n, ?_, rfl⟩
    rw [un]
    simp [Builtin.len_, run_underlying hd, bytesOf_size, h3, goInt]
  · rename_i b off n ex d hd
    refine ⟨_, H, go fun β w a hr ha => ?_⟩
    obtain ⟨c, κ, _, rfl⟩ := con_slice ha
    refine ⟨.int .i64 n, ?_, rfl⟩
    rw [un]
    simp [Builtin.len_, run_underlying hd, goInt]
  · rename_i n c hd
    rw [fNat_eq] at H
    refine ⟨_, H, go fun β w a hr ha => ?_⟩
    obtain ⟨rfl, -⟩ := con_raw ha
    refine ⟨.int .i64 n, ?_, rfl⟩
    rw [un]
    simp [Builtin.len_, run_underlying hd, goInt]
  · rename_i n e hd
    rw [fNat_eq] at H
    refine ⟨_, H, go fun β w a hr ha => ?_⟩
    refine ⟨.int .i64 n, ?_, rfl⟩
    rw [un]
    simp [Builtin.len_, run_underlying hd, goInt]
  · rename_i e f hd
    refine ⟨_, H, go fun β w a hr ha => ?_⟩
    obtain ⟨rfl, -⟩ := con_raw ha
    refine ⟨.int .i64 0, ?_, rfl⟩
    rw [un]
    simp [Builtin.len_, run_underlying hd, goInt]
  · rename_i e f b hd
    obtain ⟨es, c, h1, Ha⟩ := mapEs_yes H
    rw [fNat_eq] at Ha
    refine ⟨_, Ha, go fun β w a hr ha => ?_⟩
    obtain ⟨cb, κ, ms, e1, e2, e3⟩ := map_of hr h1
    obtain ⟨c', κ', e4, rfl⟩ := con_map ha
    rw [e1] at e4; injection e4 with e4; injection e4 with e4 _; subst e4
    refine ⟨.int .i64 es.length, ?_, rfl⟩
    rw [un]
    simp [Builtin.len_, run_underlying hd, goInt, run_getMap e2, e3.len]
  · cases H
theorem sameKey_yes {d : TypeDesc} {x y : AV} {k : Bool → Ans} (H : sameKey d x y k = .yes) : ∃ r, k r = .yes ∧ ((∃ q, d = .int q) ∨ d = .string) ∧ ∀ β a b, con β x = some a → con β y = some b → Instr.sameNow d a b = some r ∧ (r = true → a = b ∧ Instr.sameBits 10000 a a = true) := by
  have si : ∀ q z, Instr.sameBits 10000 (.int q z) (.int q z) = true := fun q z => by simp [Instr.sameBits]
  have ss : ∀ z : ByteArray, Instr.sameBits 10000 (.string z) (.string z) = true := fun z => by
    show (z == z) = true
    show (z.data == z.data) = true
    simp
  unfold sameKey at H
  split at H
  · rw [eqNat_eq] at H
    refine ⟨_, H, .inr rfl, fun β a b ha hb => ?_⟩
    obtain ⟨rfl, h1, h2⟩ := con_str_inv ha
    obtain ⟨rfl, h3, h4⟩ := con_str_inv hb
    rename_i n l m r
    have e : (bytesOf l == bytesOf r) = (l == r) := by
      have e0 : (bytesOf l == bytesOf r) = ((bytesOf l).data == (bytesOf r).data) := rfl
      rw [← map_ofNat_eq h2 h4, e0, Bool.eq_iff_iff, beq_iff_eq, beq_iff_eq]
      unfold bytesOf
      constructor
      · intro e; simpa using congrArg Array.toList e
      · intro e; show (l.map UInt8.ofNat).toArray = _; rw [e]
    refine ⟨by simp only [Instr.sameNow, e], fun hr => ?_⟩
    rw [show l = r by simpa using hr]
    exact ⟨rfl, ss _⟩
  · rw [fBool_eq] at H
    refine ⟨_, H, .inl ⟨_, rfl⟩, fun β a b ha hb => ?_⟩
    rw [con_nat ha, con_nat hb]
    exact ⟨by simp [Instr.sameNow, bool_eq_nat], fun hr => by rw [Nat.eq_of_beq_eq_true hr]; exact ⟨rfl, si _ _⟩⟩
  · rw [fBool_eq] at H
    refine ⟨_, H, .inl ⟨_, rfl⟩, fun β a b ha hb => ?_⟩
    rw [con_u8 ha, con_u8 hb]
    exact ⟨by simp [Instr.sameNow, bool_eq_nat], fun hr => by rw [Nat.eq_of_beq_eq_true hr]; exact ⟨rfl, si _ _⟩⟩
  · rename_i q a q' b
    obtain ⟨h1, Ha⟩ := cnd_yes H
    clear H
    have h1' : q = q' := by simpa using h1
    subst h1'
    rw [fBool_eq] at Ha
    refine ⟨_, Ha, .inl ⟨_, rfl⟩, fun β u v ha hb => ?_⟩
    rw [con_int ha, con_int hb]
    exact ⟨by simp only [Instr.sameNow, if_true]; congr 1, fun hr => by rw [show a = b by simpa using hr]; exact ⟨rfl, si _ _⟩⟩
  · cases H
theorem findK_yes {d : TypeDesc} {x : AV} {es : List (AV × AV × Nat)} {no : Ans} {k : AV → Ans} (H : findK d x es no k = .yes) :
    (no = .yes ∧ ∀ β a ms i, con β x = some a → EntR β es ms → Instr.findNow d a ms i = some none) ∨
    (∃ v, k v = .yes ∧ ∀ β a ms i, con β x = some a → EntR β es ms → ∃ j u, Instr.findNow d a ms i = some (some (j, u)) ∧ con β v = some u) := by
  induction es with
  | nil =>
    refine .inl ⟨H, fun β a ms i ha he => ?_⟩
    cases ms with
    | nil => rfl
    | cons m ms => exact he.elim
  | cons e es ih =>
    obtain ⟨r, H, -, hr⟩ := sameKey_yes H
    cases r with
    | true =>
      refine .inr ⟨_, H, fun β a ms i ha he => ?_⟩
      cases ms with
      | nil => exact he.elim
      | cons m ms =>
        obtain ⟨h1, h2, h3, h4⟩ := he
        refine ⟨i, m.val, ?_, h2⟩
        unfold Instr.findNow
        rw [(hr β a m.key ha h1).1]
    | false =>
      rcases ih H with ⟨hn, hg⟩ | ⟨v, hv, hg⟩
      · refine .inl ⟨hn, fun β a ms i ha he => ?_⟩
        cases ms with
        | nil => exact he.elim
        | cons m ms =>
          obtain ⟨h1, h2, h3, h4⟩ := he
          unfold Instr.findNow
          rw [(hr β a m.key ha h1).1]
          exact hg β a ms (i + 1) ha h4
      · refine .inr ⟨v, hv, fun β a ms i ha he => ?_⟩
        cases ms with
        | nil => exact he.elim
        | cons m ms =>
          obtain ⟨h1, h2, h3, h4⟩ := he
          unfold Instr.findNow
          rw [(hr β a m.key ha h1).1]
          exact hg β a ms (i + 1) ha h4
theorem run_checkKey {q : TypeId} {d : TypeDesc} (hd : P.underlying q = some d) (hk : (∃ i, d = .int i) ∨ d = .string) (em : Bool) (a : Value) (w : World) : (Instr.checkKey em 10000 q a).run P w = .ok () w := by
  show (Instr.checkKey em (9999 + 1) q a).run P w = _
  rw [Instr.checkKey]
  simp only [Sem.run_bind, run_underlying hd, Result.andThen_ok]
  rcases hk with ⟨i, rfl⟩ | rfl <;> rfl
theorem keyOk_yes {d : TypeDesc} (h : keyOk d = true) : (∃ i, d = .int i) ∨ d = .string := by
  unfold keyOk at h
  split at h
  · exact .inl ⟨_, rfl⟩
  · exact .inr rfl
  · cases h
theorem lookupK_yes {t : TypeId} {x i : AV} {ok : Bool} {h : Hp} {k : AV → Ans} (H : lookupK P t x i ok h k = .yes) : ∃ v, k v = .yes ∧ Sem2 P (fun a b => Instr.lookup t a b ok) x i h v h := by
  unfold lookupK at H
  split at H
  · rename_i q e hd
    have fin : ∀ {v : AV} {b : Bool}, cnd ok (k (.tup [v, .bool b])) (k v) = .yes → ∃ v', k v' = .yes ∧ ∀ β u, con β v = some u → con β v' = some (if ok = true then .tuple #[u, .bool b] else u) := by
      intro v b H
      rw [cnd_eq] at H
      split at H
      · rename_i hok
        refine ⟨_, H, fun β u hu => ?_⟩
        rw [if_pos hok]
        simp only [con]
        rw [conL_mk hu (conL_mk (by simp only [con] : con β (.bool b) = some (.bool b)) rfl)]
        rfl
      · rename_i hok
        exact ⟨_, H, fun β u hu => by rw [if_neg hok]; exact hu⟩
    dsimp only at H
    split at H
    · rename_i d hq
      obtain ⟨hk, Ha⟩ := cnd_yes H
      obtain ⟨ti, z, av, hi, hz, hc, Hb⟩ := zeroK_yes Ha
      obtain ⟨v, hv, hcon⟩ := fin Hb
      refine ⟨v, hv, fun β w a b hr ha hb => ?_⟩
      obtain ⟨rfl, -⟩ := con_raw ha
      refine ⟨β, w, _, ?_, .refl hr, hcon β z (hc β)⟩
      show (Instr.lookup t _ b ok).run P w = _
      unfold Instr.lookup
      simp only [Sem.run_bind, run_underlying hd, Result.andThen_ok, Sem.run_pure, run_checkKey hq (keyOk_yes hk), Instr.findKey, run_underlying hq, zeroValue, typeInfo, run_program, hi, hz]
      have hf : ∀ i, Instr.findNow d b (#[] : Array MapEntry).toList i = some none := fun i => rfl
      rw [hf]
      simp only [Sem.run_pure, Result.andThen_ok, Sem.run_bind, run_program, hi, hz]
    · rename_i b d hq
      obtain ⟨hk, Ha⟩ := cnd_yes H
      obtain ⟨es, c, h1, Hb⟩ := mapEs_yes Ha
      rcases findK_yes Hb with ⟨Hc, hf⟩ | ⟨v0, Hc, hf⟩
      · obtain ⟨ti, z, av, hi, hz, hc, Hd⟩ := zeroK_yes Hc
        obtain ⟨v, hv, hcon⟩ := fin Hd
        refine ⟨v, hv, fun β w a y hr ha hy => ?_⟩
        obtain ⟨cb, κ, ms, e1, e2, e3⟩ := map_of hr h1
        obtain ⟨c', κ', e4, rfl⟩ := con_map ha
        rw [e1] at e4; injection e4 with e4; injection e4 with e4 _; subst e4
        refine ⟨β, w, _, ?_, .refl hr, hcon β z (hc β)⟩
        show (Instr.lookup t _ y ok).run P w = _
        unfold Instr.lookup
        simp only [Sem.run_bind, run_underlying hd, Result.andThen_ok, Sem.run_pure, run_getMap e2, run_checkKey hq (keyOk_yes hk), Instr.findKey, run_underlying hq]
        rw [hf β y _ 0 hy e3]
        simp only [Sem.run_pure, Result.andThen_ok, Sem.run_bind, zeroValue, typeInfo, run_program, hi, hz]
      · obtain ⟨v, hv, hcon⟩ := fin Hc
        refine ⟨v, hv, fun β w a y hr ha hy => ?_⟩
        obtain ⟨cb, κ, ms, e1, e2, e3⟩ := map_of hr h1
        obtain ⟨c', κ', e4, rfl⟩ := con_map ha
        rw [e1] at e4; injection e4 with e4; injection e4 with e4 _; subst e4
        obtain ⟨j, u, f1, f2⟩ := hf β y _ 0 hy e3
        refine ⟨β, w, _, ?_, .refl hr, hcon β u f2⟩
        show (Instr.lookup t _ y ok).run P w = _
        unfold Instr.lookup
        simp only [Sem.run_bind, run_underlying hd, Result.andThen_ok, Sem.run_pure, run_getMap e2, run_checkKey hq (keyOk_yes hk), Instr.findKey, run_underlying hq]
        rw [f1]
        rfl
    · cases H
  · cases H
theorem setEs_yes {d : TypeDesc} {x v : AV} {es : List (AV × AV × Nat)} {no : Ans} {k : List (AV × AV × Nat) → Ans} (H : setEs d x v es no k = .yes) :
    (no = .yes ∧ ∀ β a ms i, con β x = some a → EntR β es ms → Instr.findNow d a ms i = some none) ∨
    (∃ es', k es' = .yes ∧ ∀ β a b ms i, con β x = some a → con β v = some b → EntR β es ms → ∃ j u m, Instr.findNow d a ms i = some (some (i + j, u)) ∧ ms[j]? = some m ∧ m.key = a ∧ Instr.sameBits 10000 a a = true ∧ EntR β es' (ms.modify j fun e => { e with key := a, val := b })) := by
  induction es generalizing k with
  | nil =>
    refine .inl ⟨H, fun β a ms i ha he => ?_⟩
    cases ms with
    | nil => rfl
    | cons m ms => exact he.elim
  | cons e es ih =>
    obtain ⟨r, Ha, -, hr⟩ := sameKey_yes H
    clear H
    cases r with
    | true =>
      refine .inr ⟨_, Ha, fun β a b ms i ha hb he => ?_⟩
      cases ms with
      | nil => exact he.elim
      | cons m ms =>
        obtain ⟨h1, h2, h3, h4⟩ := he
        obtain ⟨g1, g2⟩ := hr β a m.key ha h1
        refine ⟨0, m.val, m, ?_, rfl, (g2 rfl).1.symm, (g2 rfl).2, ?_⟩
        · unfold Instr.findNow; rw [g1]; rfl
        · rw [List.modify_zero_cons]
          exact ⟨by rw [h1, (g2 rfl).1], hb, h3, h4⟩
    | false =>
      rcases ih Ha with ⟨hn, hg⟩ | ⟨es', hv, hg⟩
      · refine .inl ⟨hn, fun β a ms i ha he => ?_⟩
        cases ms with
        | nil => exact he.elim
        | cons m ms =>
          obtain ⟨h1, h2, h3, h4⟩ := he
          unfold Instr.findNow
          rw [(hr β a m.key ha h1).1]
          exact hg β a ms (i + 1) ha h4
      · refine .inr ⟨_, hv, fun β a b ms i ha hb he => ?_⟩
        cases ms with
        | nil => exact he.elim
        | cons m ms =>
          obtain ⟨h1, h2, h3, h4⟩ := he
          obtain ⟨j, u, m', f1, f2, f3, f5, f4⟩ := hg β a b ms (i + 1) ha hb h4
          refine ⟨j + 1, u, m', ?_, by simpa using f2, f3, f5, ?_⟩
          · unfold Instr.findNow
            rw [(hr β a m.key ha h1).1]
            rw [show i + (j + 1) = i + 1 + j by omega]; exact f1
          · rw [List.modify_succ_cons]
            exact ⟨h1, h2, h3, f4⟩
theorem EntR.append {β : Bt} : ∀ {es : List (AV × AV × Nat)} {ms : List MapEntry} {e : AV × AV × Nat} {m : MapEntry}, EntR β es ms → con β e.1 = some m.key → con β e.2.1 = some m.val → m.born = e.2.2 → EntR β (es ++ [e]) (ms ++ [m])
  | [], [], e, m, _, h1, h2, h3 => ⟨h1, h2, h3, trivial⟩
  | [], _ :: _, _, _, h, _, _, _ => h.elim
  | _ :: _, [], _, _, h, _, _, _ => h.elim
  | a :: es, b :: ms, e, m, ⟨g1, g2, g3, g4⟩, h1, h2, h3 => ⟨g1, g2, g3, EntR.append g4 h1 h2 h3⟩
theorem run_setMap {w : World} {r : Nat} {ms : Array MapEntry} {c : Nat} (o : Obj) (h : w.heap[r]? = some (.map ms c)) : (setObj r o).run P w = .ok () { w with heap := w.heap.setIfInBounds r o } := by
  simp only [setObj, Sem.run, h]
theorem run_stays {a : Value} (h : Instr.sameBits 10000 a a = true) (w : World) : (Instr.keyThatStays a a).run P w = .ok a w := by
  unfold Instr.keyThatStays
  rw [if_pos h]
  rfl
theorem updateK_yes {t : TypeId} {x i v : AV} {h : Hp} {k : Hp → Ans} (H : updateK P t x i v h k = .yes) :
    ∃ h', k h' = .yes ∧ ∀ β w a b c, HR β h w → con β x = some a → con β i = some b → con β v = some c → ∃ β' w', (Instr.mapUpdate t a b c).run P w = .ok () w' ∧ Stp β h w β' h' w' := by
  unfold updateK at H
  split at H
  · rename_i q e hd
    split at H
    · rename_i b d t' n low hq
      obtain ⟨hk, Ha⟩ := cnd_yes H
      obtain ⟨es, c, h1, Hb⟩ := mapEs_yes Ha
      have h1' : t'.get (path b) = some (.map es c) := h1
      have fin : ∀ {es' : List (AV × AV × Nat)} {c' : Nat}, (t'.setP (path b) (some (.map es' c')) fun t => natMin low b fun low => k (.mk t n low)) = .yes → k (.mk (t'.set (path b) (some (.map es' c'))) n (min low b)) = .yes := by
        intro es' c' H
        rw [setP_eq, natMin_eq] at H; exact H
      rcases setEs_yes Hb with ⟨Hc, hf⟩ | ⟨es', Hc, hf⟩
      · rw [catE_eq, fNat_eq] at Hc
        refine ⟨_, fin Hc, fun β w a y u hr ha hy hu => ?_⟩
        obtain ⟨cb, κ, ms, e1, e2, e3⟩ := map_of hr h1
        obtain ⟨c', κ', e4, rfl⟩ := con_map ha
        rw [e1] at e4; injection e4 with e4; injection e4 with e4 _; subst e4
        have hlt : cb < w.heap.size := (Array.getElem?_eq_some_iff.1 e2).1
        refine ⟨β, _, ?_, Stp.set_block hr h1' e1 (w' := { w with heap := w.heap.setIfInBounds cb (.map (ms.push { key := y, val := u, born := c }) (c + 1)) }) (by simp) (fun i hi hne => by simp [Array.getElem?_setIfInBounds, hne.symm]) rfl rfl rfl ⟨ms.push { key := y, val := u, born := c }, ?_, ?_⟩⟩
        · unfold Instr.mapUpdate
          simp only [Sem.run_bind, run_underlying hd, Result.andThen_ok, run_getMap e2, run_checkKey hq (keyOk_yes hk), Instr.findKey, run_underlying hq]
          rw [hf β y _ 0 hy e3]
          simp only [Sem.run_pure, Result.andThen_ok, run_setMap _ e2]
        · simp [Array.getElem?_setIfInBounds, hlt]
        · rw [Array.toList_push]
          exact e3.append hy hu rfl
      · refine ⟨_, fin Hc, fun β w a y u hr ha hy hu => ?_⟩
        obtain ⟨cb, κ, ms, e1, e2, e3⟩ := map_of hr h1
        obtain ⟨c', κ', e4, rfl⟩ := con_map ha
        rw [e1] at e4; injection e4 with e4; injection e4 with e4 _; subst e4
        have hlt : cb < w.heap.size := (Array.getElem?_eq_some_iff.1 e2).1
        obtain ⟨j, uu, m, f1, f2, f3, f5, f4⟩ := hf β y u ms.toList 0 hy hu e3
        rw [Nat.zero_add] at f1
        refine ⟨β, _, ?_, Stp.set_block hr h1' e1 (w' := { w with heap := w.heap.setIfInBounds cb (.map (ms.modify j fun e => { e with key := y, val := u }) c) }) (by simp) (fun i hi hne => by simp [Array.getElem?_setIfInBounds, hne.symm]) rfl rfl rfl ⟨ms.modify j fun e => { e with key := y, val := u }, ?_, ?_⟩⟩
        · unfold Instr.mapUpdate
          simp only [Sem.run_bind, run_underlying hd, Result.andThen_ok, run_getMap e2, run_checkKey hq (keyOk_yes hk), Instr.findKey, run_underlying hq]
          rw [f1]
          have f2' : ms[j]? = some m := by simpa using f2
          simp only [Sem.run_pure, Result.andThen_ok, Sem.run_bind, f2', Option.map_some, Option.getD_some, f3, run_stays f5, run_setMap _ e2]
        · simp [Array.getElem?_setIfInBounds, hlt]
        · rw [Array.toList_modify]
          exact f4
    · cases H
  · cases H
theorem newMapK_yes {h : Hp} {k : AK} (H : newMapK h k = .yes) : ∃ v h', k v h' = .yes ∧ ∀ β w, HR β h w → ∃ β' w' u, (do Pure.pure (Value.map (some (← newObj (.map #[] 0)))) : Sem Value).run P w = .ok u w' ∧ Stp β h w β' h' w' ∧ con β' v = some u := by
  cases h with
  | mk t n low =>
    unfold newMapK at H
    simp only [setP_eq, fNat_eq] at H
    refine ⟨_, _, H, fun β w hr => ⟨upd β n w.heap.size 0, w.alloc (.map #[] 0), .map (some w.heap.size), rfl, Stp.new_block hr (.map #[] 0) 0 (.map [] 0) rfl rfl rfl rfl ⟨#[], rfl, trivial⟩, ?_⟩⟩
    simp only [con, upd_same]; rfl
end Go.Ev
