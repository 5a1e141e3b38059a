import Derived.Lib.ConvBytes
import Derived.Maps.OwnSet
import Derived.Test.YtaklcjnfjchebaaSp10
set_option linter.unusedVariables false
set_option linter.unusedSimpArgs false
namespace Go.Proofs.Ytaklcjnfjchebaa
open Go.RowKit
section
theorem bytesWorld_below (w : World) (e : TypeId) (s : ByteArray) : Below w.heap.size w (Lib.bytesWorld w e s) :=
  ⟨rfl, rfl, rfl, by rw [Lib.bytesWorld_size]; omega, fun k hk => Lib.bytesWorld_at_old w e s k hk⟩
theorem bytesWorld_is8 (w : World) (e : TypeId) (l : List UInt8) (hl : l.length ≤ 4611686018427387904) : Is8 (Lib.bytesWorld w e ⟨l.toArray⟩) (.slice (some ⟨w.heap.size, 0, none⟩) l.length (grownCap w l.length 0 e)) l := by
  refine ⟨_, _, rfl, grownCap_ge _ _ _ _, grownCap_le_maxLen _ _ _ _ (by unfold maxLen; omega), (fun h => by cases h), fun _ => ⟨w.heap.size, 0, rfl, fun i hi => ?_⟩⟩
  rw [Nat.zero_add, Lib.bytesWorld_cell w e ⟨l.toArray⟩ i (by rw [str_size]; exact hi)]
  rfl
section
variable {P : Program} {ops : Array Oper} {rest : List Oper} {o : Oper} {a : Act} {Q : Exit → Act → World → Prop}
theorem wpList_toBytes (w : World) (hw : Region.wanted o (yielded ops a.tmps) = true) (s d : TypeId) (x : Operand) (hop : o.op = Op.convert s d x) (e : TypeId)
    (hs : P.underlying s = some .string) (hd : P.underlying d = some (.slice e)) (he : P.underlying e = some (.int .u8)) (l : List UInt8) (hx : a.eval x = .string ⟨l.toArray⟩) (hl : l.length ≤ 4611686018427387904)
    (h : ∀ b cap w', Is8 w' (.slice (some ⟨b, 0, none⟩) l.length cap) l → Below w.heap.size w w' → b = w.heap.size → wpList P ops Q rest (a.put o.dst (.slice (some ⟨b, 0, none⟩) l.length cap)) w') : wpList P ops Q (o :: rest) a w := by
  refine wpList_met hw fun K hK => ?_
  have hrun := Lib.run_convert_string_bytes (P := P) w s d e ⟨l.toArray⟩ hs hd he
  rw [str_size] at hrun
  unfold Oper.wp
  simp [execOp, hop, hx, hrun, Result.andThen]
  exact hK _ _ (h _ _ _ (bytesWorld_is8 w e l hl) (bytesWorld_below w e _) rfl)
end
end
end Go.Proofs.Ytaklcjnfjchebaa
namespace Go.Proofs.Ytaklcjnfjchebaa
open Go.RowKit Go.Maps Go.WideMaps
def keysK (ks : List (List UInt8)) (k : Nat) : List Lit := (ks.take k).map Lit.string
def Sk {H : Type} (ks : List (List UInt8)) (k : Nat) : DataW H := setOf (.agg []) (keysK ks k)
theorem keysK_succ (ks : List (List UInt8)) (k : Nat) (hk : k < ks.length) : keysK ks (k + 1) = keysK ks k ++ [Lit.string (ks.getD k [])] := by
  unfold keysK
  rw [List.take_add_one, List.map_append]
  simp [List.getD, List.getElem?_eq_getElem hk]
theorem Sk_succ {H : Type} (ks : List (List UInt8)) (k : Nat) (hk : k < ks.length) : Sk (H := H) ks (k + 1) = (Sk ks k).put (.string (ks.getD k [])) (.agg []) := by
  unfold Sk
  rw [keysK_succ ks k hk, setOf_snoc]
theorem Sk_zero {H : Type} (ks : List (List UInt8)) : Sk (H := H) ks 0 = .map [] := by simp [Sk, keysK, setOf]
theorem lawStr : Keyed Try.prog 9 := string_keyed Try.underlying9
theorem keyS_ok (s : List UInt8) (h : s.length ≤ 1000000) : keyOf Try.prog 9 (.string ⟨s.toArray⟩) = some (.string s) := by
  have := keyOf_string_mk (P := Try.prog) Try.underlying9 (s := ⟨s.toArray⟩) (by show s.toArray.size ≤ _; rw [List.size_toArray]; unfold maxLen; omega)
  simpa using this
theorem run_makeMapN {P : Program} {t k e : TypeId} (hd : P.underlying t = some (.map k e)) (z : Int) (w : World) : (Instr.makeMap t (some (.int .i64 z))).run P w = .ok (.map (some w.heap.size)) (w.alloc (.map #[] 0)) := by
  unfold Instr.makeMap
  simp only [Sem.run_bind, run_underlying hd, Result.andThen_ok]
  rfl
set_option maxRecDepth 100000 in
set_option maxHeartbeats 1000000 in
theorem mayKeys_none (a : Option Addr) (cap : Nat) (w : World) : Calls Try.prog 31 #[.slice a 0 cap] w fun e w' => e = .returned (.bool true) ∧ Below w.heap.size w w' := by
  have hmm := run_makeMapN (P := Try.prog) Try.underlying64
  go_enter Try.func31, Try.ntmps31
  go_wp2
  refine wp_loop_rounds 1 ?_
  rw [rounds_succ]
  go_wp2_with (first
    | (at_len; refine wpList_len_own _ rfl _ 64 rfl 9 65 Try.underlying64 (unitElem (H := Unit)) w.heap.size 0 (.map []) rfl (World.ownsMap_made _ _ _ _) ?_)
    | go_in)
  go_ret
  exact ⟨rfl, (Below.refl _ _).alloc (Nat.le_refl _) _⟩
theorem mk_bool {a b : Bool} (h : a = b) : Ending.returned (.bool a) = .returned (.bool b) := by rw [h]
theorem owns_below {H : Type} {P : Program} {k : TypeId} {R : Value → Option (DataW H × List MemPlace)} {w w' : World} {b n : Nat} {D : DataW H} (h : w.ownsMap P k R b n D) (hb : Below w.heap.size w w') : w'.ownsMap P k R b n D := by
  obtain ⟨es, clock, h1, h2⟩ := h
  obtain ⟨-, -, -, -, h5⟩ := hb
  exact ⟨es, clock, by rw [h5 b (Array.getElem?_eq_some_iff.1 h1).1]; exact h1, h2⟩
theorem owns_drewN {H : Type} {P : Program} {k : TypeId} {R : Value → Option (DataW H × List MemPlace)} {w : World} {b n : Nat} {D : DataW H} (h : w.ownsMap P k R b n D) (m : Nat) : (w.drewN m).ownsMap P k R b n D := h
theorem below_drewN {n : Nat} {w w' : World} (h : Below n w w') (m : Nat) : Below n w (w'.drewN m) := below_dr h m
set_option maxRecDepth 100000 in
set_option maxHeartbeats 2000000 in
theorem mayKeys_any (b off cap : Nat) (ks : List (List UInt8)) (w : World) (hl : ks.length ≤ 1000000) (hb : b < w.heap.size)
    (hc : ∀ j, j < ks.length → w.cell? ⟨b, off + j, none⟩ = some (.string ⟨(ks.getD j []).toArray⟩)) (hk : ∀ s ∈ ks, s.length ≤ 1000000) :
    Calls Try.prog 31 #[.slice (some ⟨b, off, none⟩) ks.length cap] w fun e w' => e = .returned (.bool (ks.all validL && decide (Maps.size (Sk (H := Unit) ks ks.length) = ks.length))) ∧ Below w.heap.size w w' := by
  have hmm := run_makeMapN (P := Try.prog) Try.underlying64
  obtain ⟨L, hL⟩ : ∃ L, ks.length = L := ⟨_, rfl⟩
  have HC := Lib.hid hc
  have HK := Lib.hid hk
  have HL := Lib.hid hL
  rw [hL] at hl ⊢
  clear hc hk hL
  go_enter Try.func31, Try.ntmps31
  go_wp2
  go_loopw [11] (fun i wr => ∃ k : Nat, k ≤ L ∧ i = .int .i64 k ∧ Hid ((ks.take k).all validL = true) ∧ wr.ownsMap Try.prog 9 unitElem w.heap.size k (Sk (H := Unit) ks k) ∧ Below w.heap.size w wr)
    (fun i _ => L - (intOf i).toNat)
  case atStart => exact ⟨0, Nat.zero_le _, rfl, Lib.hid (by simp), by rw [Sk_zero]; exact World.ownsMap_made _ _ _ _, (Below.refl _ _).alloc (Nat.le_refl _) _⟩
  case round =>
    obtain ⟨k, hkL, rfl, hall, hown, hnx⟩ := hrel
    have HO := Lib.hid hown
    have HN := Lib.hid hnx
    clear hown
    by_cases hlt : k < L
    · have hkl : k < ks.length := by rw [HL.out]; exact hlt
      have hcx : wr.cell? ⟨b, off + k, none⟩ = some (.string ⟨(ks.getD k []).toArray⟩) := (hnx.cell (by exact hb)).trans (HC.out k hkl)
      have hsl : (ks.getD k []).length ≤ 1000000 := HK.out _ (by rw [List.getD_eq_getElem?_getD, List.getElem?_eq_getElem hkl]; exact List.getElem_mem hkl)
      have HT : Hid ((ks.take (k + 1)).all validL = ((ks.take k).all validL && validL (ks.getD k []))) := Lib.hid (by rw [List.take_add_one, List.getElem?_eq_getElem hkl, List.getD_eq_getElem?_getD, List.getElem?_eq_getElem hkl, List.all_append]; simp)
      have hkey := Lib.hid (keyS_ok (ks.getD k []) hsl)
      have HF : Hid (validL (ks.getD k []) = false → ks.all validL = false) := Lib.hid fun h => by
        rw [List.all_eq_false]
        exact ⟨_, List.getElem_mem hkl, by rw [List.getD_eq_getElem?_getD, List.getElem?_eq_getElem hkl] at h; simpa using h⟩
      have HS : Hid (Sk (H := Unit) ks (k + 1) = (Sk ks k).put (.string (ks.getD k [])) (.agg [])) := Lib.hid (Sk_succ ks k hkl)
      clear hnx
      generalize ks.getD k [] = s at *
      have hconv : ∀ w0 : World, (convert 9 29 (.string ⟨s.toArray⟩)).run Try.prog w0 = .ok (.slice (some ⟨w0.heap.size, 0, none⟩) s.length (grownCap w0 s.length 0 5)) (Lib.bytesWorld w0 5 ⟨s.toArray⟩) := fun w0 => by
        have hrun := Lib.run_convert_string_bytes (P := Try.prog) w0 9 29 5 ⟨s.toArray⟩ Try.underlying9 Try.underlying29 Try.underlying5
        rw [str_size] at hrun
        exact hrun
      have h8 := bytesWorld_is8 wr 5 s (by omega)
      have hbl := bytesWorld_below wr 5 ⟨s.toArray⟩
      go_wp2_with fail
      clear hconv
      generalize Lib.bytesWorld wr 5 ⟨s.toArray⟩ = w1 at *
      generalize grownCap wr s.length 0 5 = cp at *
      have H8 := Lib.hid h8
      have HB := Lib.hid hbl
      clear h8 hbl
      refine (valid_any _ s _ H8.out hsl).mono ?_
      rintro e w' ⟨rfl, n2, rfl⟩
      have HO1 : Hid ((w1.drewN n2).ownsMap Try.prog 9 unitElem w.heap.size k (Sk (H := Unit) ks k)) := Lib.hid (owns_drewN (owns_below HO.out HB.out) n2)
      have HN1 : Hid (Below w.heap.size w (w1.drewN n2)) := Lib.hid (below_drewN (HN.out.trans (HB.out.mono HN.out.size)) n2)
      clear HO HB H8 HN
      cases hv : validL s with
      | false =>
        have HR := Lib.hid (HF.out hv)
        go_wp2
        go_ret
        exact ⟨by rw [HR.out]; rfl, HN1.out⟩
      | true =>
        have HA : Hid ((ks.take (k + 1)).all validL = true) := Lib.hid (by rw [HT.out, hall.out, hv]; rfl)
        clear hv HF HT
        obtain ⟨w2, hrun, hown1, hgrow1⟩ := HO1.out.update lawStr Try.underlying64 (by unfold maxLen; omega) hkey.out (unitElem_mk (H := Unit))
        have HW := Lib.hid hown1
        have HG := Lib.hid hgrow1
        clear hown1 hgrow1
        go_wp2
        go_roundw
        case rel => exact ⟨k + 1, by omega, by go_num, HA, by rw [HS.out]; exact HW.out, HN1.out.grown HG.out HN1.out.size (fun j hj => by cases hj; exact Nat.le_refl _)⟩
        case measure => simp [intOf]; omega
    · have hkL2 : k = L := by omega
      subst hkL2
      have hlen := fun ty => HO.out.len Try.underlying64 ty
      go_wp2
      go_ret
      have ha := hall.out
      rw [← HL.out, List.take_length] at ha
      have hfin : ((Maps.size (Sk (H := Unit) ks k) : Int) == (k : Int)) = (ks.all validL && decide (Maps.size (Sk (H := Unit) ks k) = k)) := by
        rw [ha, Bool.true_and]
        by_cases h : Maps.size (Sk (H := Unit) ks k) = k
        · rw [h]; simp
        · rw [decide_eq_false h, beq_eq_false_iff_ne]; omega
      exact ⟨mk_bool hfin, HN.out⟩
end Go.Proofs.Ytaklcjnfjchebaa
namespace Go.Proofs.Ytaklcjnfjchebaa
open Go.RowKit
theorem ret_bool {a b : Bool} (h : a = b) : Ending.returned (.bool a) = .returned (.bool b) := by rw [h]
def isNumM (s : List UInt8) : Bool := (numM s 0).2 && ((numM s 0).1 == s.length)
set_option maxHeartbeats 2000000 in
theorem isNum_any (s : List UInt8) (w : World) (hm : s.length ≤ 1000000) :
    Calls Try.prog 28 #[.string ⟨s.toArray⟩] w fun e w' => e = .returned (.bool (isNumM s)) ∧ Below w.heap.size w w' := by
  have HN := Lib.hid (fun v W (h : Is8 W v s) => number_any v s 0 W h hm (by omega))
  have HF : Hid (isNumM s = ((numM s 0).2 && ((numM s 0).1 == s.length))) := Lib.hid rfl
  have hb := numM_bd s 0 (by omega)
  obtain ⟨R, hR⟩ : ∃ R, numM s 0 = R := ⟨_, rfl⟩
  rw [hR] at HN HF hb
  clear hR
  obtain ⟨q, ok⟩ := R
  have hq : q ≤ s.length := hb.2
  have HN2 : Hid (∀ v W, Is8 W v s → Calls Try.prog 45 #[v, .int .i64 0] W fun e w' => e = .returned (.tuple #[.int .i64 q, .bool ok]) ∧ W = w') := Lib.hid HN.out
  have HF2 : Hid (isNumM s = (ok && (q == s.length))) := Lib.hid HF.out
  clear HN HF hb
  cases ok with
  | false =>
    go_enter Try.func28, Try.ntmps28
    go_wp2_with (refine wpList_toBytes _ (by rfl) 9 29 _ rfl 5 Try.underlying9 Try.underlying29 Try.underlying5 s rfl (by omega) ?_)
    intro b cap w1 h8 hbl hbe
    clear hbe
    go_wp2_with fail
    refine (HN2.out _ _ h8).mono ?_
    rintro e w' ⟨rfl, rfl⟩
    go_wp2_with fail
    go_ret
    exact ⟨ret_bool HF2.out.symm, hbl⟩
  | true =>
    by_cases hql : q = s.length
    · have HF3 : Hid (isNumM s = true) := Lib.hid (by rw [HF2.out, hql]; simp)
      have e1 : ((q : Int) == (s.length : Int)) = true := by rw [hql]; simp
      clear hql
      go_enter Try.func28, Try.ntmps28
      go_wp2_with (refine wpList_toBytes _ (by rfl) 9 29 _ rfl 5 Try.underlying9 Try.underlying29 Try.underlying5 s rfl (by omega) ?_)
      intro b cap w1 h8 hbl hbe
      clear hbe
      go_wp2_with fail
      refine (HN2.out _ _ h8).mono ?_
      rintro e w' ⟨rfl, rfl⟩
      go_wp2_with fail
      go_ret
      exact ⟨ret_bool HF3.out.symm, hbl⟩
    · have HF3 : Hid (isNumM s = false) := Lib.hid (by rw [HF2.out]; simp [hql])
      have e1 : ((q : Int) == (s.length : Int)) = false := by rw [beq_eq_false_iff_ne]; omega
      clear hql
      go_enter Try.func28, Try.ntmps28
      go_wp2_with (refine wpList_toBytes _ (by rfl) 9 29 _ rfl 5 Try.underlying9 Try.underlying29 Try.underlying5 s rfl (by omega) ?_)
      intro b cap w1 h8 hbl hbe
      clear hbe
      go_wp2_with fail
      refine (HN2.out _ _ h8).mono ?_
      rintro e w' ⟨rfl, rfl⟩
      go_wp2_with fail
      go_ret
      exact ⟨ret_bool HF3.out.symm, hbl⟩
end Go.Proofs.Ytaklcjnfjchebaa
