import Derived.Lib.ConvBytes
import Derived.Maps.OwnSet
import Derived.Test.YtaklcjnfjchebaaSt910
set_option linter.unusedVariables false
set_option linter.unusedSimpArgs false
namespace Go.Proofs.Ytaklcjnfjchebaa
open Go.RowKit
section
theorem bytesWorld_below (w : World) (e : TypeId) (s : ByteArray) : Below w.heap.size w (Lib.bytesWorld w e s) :=
  ⟨rfl, rfl, rfl, by rw [Lib.bytesWorld_size]; omega, fun k hk => Lib.bytesWorld_at_old w e s k hk⟩
theorem bytesWorld_is8 (w : World) (e : TypeId) (l : List UInt8) (hl : l.length ≤ 4611686018427387904) : Is8 (Lib.bytesWorld w e ⟨l.toArray⟩) (.slice (some ⟨w.heap.size, 0, none⟩) l.length (grownCap w l.length 0 e)) l := by
  refine ⟨_, _, rfl, grownCap_ge _ _ _ _, grownCap_le_maxLen _ _ _ _ (by unfold maxLen; omega), (fun h => by cases h), fun _ => ⟨w.heap.size, 0, rfl, fun i hi => ?_⟩⟩
  rw [Nat.zero_add, Lib.bytesWorld_cell w e ⟨l.toArray⟩ i (by rw [str_size]; exact hi)]
  rfl
section
variable {P : Program} {ops : Array Oper} {rest : List Oper} {o : Oper} {a : Act} {Q : Exit → Act → World → Prop}
theorem wpList_toBytes (w : World) (hw : Region.wanted o (yielded ops a.tmps) = true) (s d : TypeId) (x : Operand) (hop : o.op = Op.convert s d x) (e : TypeId)
    (hs : P.underlying s = some .string) (hd : P.underlying d = some (.slice e)) (he : P.underlying e = some (.int .u8)) (l : List UInt8) (hx : a.eval x = .string ⟨l.toArray⟩) (hl : l.length ≤ 4611686018427387904)
    (h : ∀ b cap w', Is8 w' (.slice (some ⟨b, 0, none⟩) l.length cap) l → Below w.heap.size w w' → b = w.heap.size → wpList P ops Q rest (a.put o.dst (.slice (some ⟨b, 0, none⟩) l.length cap)) w') : wpList P ops Q (o :: rest) a w := by
  refine wpList_met hw fun K hK => ?_
  have hrun := Lib.run_convert_string_bytes (P := P) w s d e ⟨l.toArray⟩ hs hd he
  rw [str_size] at hrun
  unfold Oper.wp
  simp [execOp, hop, hx, hrun, Result.andThen]
  exact hK _ _ (h _ _ _ (bytesWorld_is8 w e l hl) (bytesWorld_below w e _) rfl)
end
end
end Go.Proofs.Ytaklcjnfjchebaa
namespace Go.Proofs.Ytaklcjnfjchebaa
open Go.RowKit Go.Maps Go.WideMaps
def keysK (ks : List (List UInt8)) (k : Nat) : List Lit := (ks.take k).map Lit.string
def Sk {H : Type} (ks : List (List UInt8)) (k : Nat) : DataW H := setOf (.agg []) (keysK ks k)
theorem keysK_succ (ks : List (List UInt8)) (k : Nat) (hk : k < ks.length) : keysK ks (k + 1) = keysK ks k ++ [Lit.string (ks.getD k [])] := by
  unfold keysK
  rw [List.take_add_one, List.map_append]
  simp [List.getD, List.getElem?_eq_getElem hk]
theorem Sk_succ {H : Type} (ks : List (List UInt8)) (k : Nat) (hk : k < ks.length) : Sk (H := H) ks (k + 1) = (Sk ks k).put (.string (ks.getD k [])) (.agg []) := by
  unfold Sk
  rw [keysK_succ ks k hk, setOf_snoc]
theorem Sk_zero {H : Type} (ks : List (List UInt8)) : Sk (H := H) ks 0 = .map [] := by simp [Sk, keysK, setOf]
theorem lawStr : Keyed Try.prog 9 := string_keyed Try.underlying9
theorem keyS_ok (s : List UInt8) (h : s.length ≤ 1000000) : keyOf Try.prog 9 (.string ⟨s.toArray⟩) = some (.string s) := by
  have := keyOf_string_mk (P := Try.prog) Try.underlying9 (s := ⟨s.toArray⟩) (by show s.toArray.size ≤ _; rw [List.size_toArray]; unfold maxLen; omega)
  simpa using this
theorem run_makeMapN {P : Program} {t k e : TypeId} (hd : P.underlying t = some (.map k e)) (z : Int) (w : World) : (Instr.makeMap t (some (.int .i64 z))).run P w = .ok (.map (some w.heap.size)) (w.alloc (.map #[] 0)) := by
  unfold Instr.makeMap
  simp only [Sem.run_bind, run_underlying hd, Result.andThen_ok]
  rfl
set_option maxRecDepth 100000 in
set_option maxHeartbeats 1000000 in
theorem mayKeys_none (a : Option Addr) (cap : Nat) (w : World) : Calls Try.prog 31 #[.slice a 0 cap] w fun e w' => e = .returned (.bool true) ∧ Below w.heap.size w w' := by
  have hmm := run_makeMapN (P := Try.prog) Try.underlying64
  go_enter Try.func31, Try.ntmps31
  go_wp2
  refine wp_loop_rounds 1 ?_
  rw [rounds_succ]
  go_wp2_with (first
    | (at_len; refine wpList_len_own _ rfl _ 64 rfl 9 65 Try.underlying64 (unitElem (H := Unit)) w.heap.size 0 (.map []) rfl (World.ownsMap_made _ _ _ _) ?_)
    | go_in)
  go_ret
  exact ⟨rfl, (Below.refl _ _).alloc (Nat.le_refl _) _⟩
theorem mk_bool {a b : Bool} (h : a = b) : Ending.returned (.bool a) = .returned (.bool b) := by rw [h]
theorem owns_below {H : Type} {P : Program} {k : TypeId} {R : Value → Option (DataW H × List MemPlace)} {w w' : World} {b n : Nat} {D : DataW H} (h : w.ownsMap P k R b n D) (hb : Below w.heap.size w w') : w'.ownsMap P k R b n D := by
  obtain ⟨es, clock, h1, h2⟩ := h
  obtain ⟨-, -, -, -, h5⟩ := hb
  exact ⟨es, clock, by rw [h5 b (Array.getElem?_eq_some_iff.1 h1).1]; exact h1, h2⟩
theorem owns_drewN {H : Type} {P : Program} {k : TypeId} {R : Value → Option (DataW H × List MemPlace)} {w : World} {b n : Nat} {D : DataW H} (h : w.ownsMap P k R b n D) (m : Nat) : (w.drewN m).ownsMap P k R b n D := h
theorem below_drewN {n : Nat} {w w' : World} (h : Below n w w') (m : Nat) : Below n w (w'.drewN m) := below_dr h m
set_option maxRecDepth 100000 in
set_option maxHeartbeats 2000000 in
theorem mayKeys_any (b off cap : Nat) (ks : List (List UInt8)) (w : World) (hl : ks.length ≤ 1000000) (hb : b < w.heap.size)
    (hc : ∀ j, j < ks.length → w.cell? ⟨b, off + j, none⟩ = some (.string ⟨(ks.getD j []).toArray⟩)) (hk : ∀ s ∈ ks, s.length ≤ 1000000) :
    Calls Try.prog 31 #[.slice (some ⟨b, off, none⟩) ks.length cap] w fun e w' => e = .returned (.bool (ks.all validL && decide (Maps.size (Sk (H := Unit) ks ks.length) = ks.length))) ∧ Below w.heap.size w w' := by
  have hmm := run_makeMapN (P := Try.prog) Try.underlying64
  obtain ⟨L, hL⟩ : ∃ L, ks.length = L := ⟨_, rfl⟩
  have HC := Lib.hid hc
  have HK := Lib.hid hk
  have HL := Lib.hid hL
  rw [hL] at hl ⊢
  clear hc hk hL
  go_enter Try.func31, Try.ntmps31
  go_wp2
  go_loopw [11] (fun i wr => ∃ k : Nat, k ≤ L ∧ i = .int .i64 k ∧ Hid ((ks.take k).all validL = true) ∧ wr.ownsMap Try.prog 9 unitElem w.heap.size k (Sk (H := Unit) ks k) ∧ Below w.heap.size w wr)
    (fun i _ => L - (intOf i).toNat)
  case atStart => exact ⟨0, Nat.zero_le _, rfl, Lib.hid (by simp), by rw [Sk_zero]; exact World.ownsMap_made _ _ _ _, (Below.refl _ _).alloc (Nat.le_refl _) _⟩
  case round =>
    obtain ⟨k, hkL, rfl, hall, hown, hnx⟩ := hrel
    have HO := Lib.hid hown
    have HN := Lib.hid hnx
    clear hown
    by_cases hlt : k < L
    · have hkl : k < ks.length := by rw [HL.out]; exact hlt
      have hcx : wr.cell? ⟨b, off + k, none⟩ = some (.string ⟨(ks.getD k []).toArray⟩) := (hnx.cell (by exact hb)).trans (HC.out k hkl)
      have hsl : (ks.getD k []).length ≤ 1000000 := HK.out _ (by rw [List.getD_eq_getElem?_getD, List.getElem?_eq_getElem hkl]; exact List.getElem_mem hkl)
      have HT : Hid ((ks.take (k + 1)).all validL = ((ks.take k).all validL && validL (ks.getD k []))) := Lib.hid (by rw [List.take_add_one, List.getElem?_eq_getElem hkl, List.getD_eq_getElem?_getD, List.getElem?_eq_getElem hkl, List.all_append]; simp)
      have hkey := Lib.hid (keyS_ok (ks.getD k []) hsl)
      have HF : Hid (validL (ks.getD k []) = false → ks.all validL = false) := Lib.hid fun h => by
        rw [List.all_eq_false]
        exact ⟨_, List.getElem_mem hkl, by rw [List.getD_eq_getElem?_getD, List.getElem?_eq_getElem hkl] at h; simpa using h⟩
      have HS : Hid (Sk (H := Unit) ks (k + 1) = (Sk ks k).put (.string (ks.getD k [])) (.agg [])) := Lib.hid (Sk_succ ks k hkl)
      clear hnx
      generalize ks.getD k [] = s at *
      have hconv : ∀ w0 : World, (convert 9 29 (.string ⟨s.toArray⟩)).run Try.prog w0 = .ok (.slice (some ⟨w0.heap.size, 0, none⟩) s.length (grownCap w0 s.length 0 5)) (Lib.bytesWorld w0 5 ⟨s.toArray⟩) := fun w0 => by
        have hrun := Lib.run_convert_string_bytes (P := Try.prog) w0 9 29 5 ⟨s.toArray⟩ Try.underlying9 Try.underlying29 Try.underlying5
        rw [str_size] at hrun
        exact hrun
      have h8 := bytesWorld_is8 wr 5 s (by omega)
      have hbl := bytesWorld_below wr 5 ⟨s.toArray⟩
      go_wp2_with fail
      clear hconv
      generalize Lib.bytesWorld wr 5 ⟨s.toArray⟩ = w1 at *
      generalize grownCap wr s.length 0 5 = cp at *
      have H8 := Lib.hid h8
      have HB := Lib.hid hbl
      clear h8 hbl
      refine (valid_any _ s _ H8.out hsl).mono ?_
      rintro e w' ⟨rfl, n2, rfl⟩
      have HO1 : Hid ((w1.drewN n2).ownsMap Try.prog 9 unitElem w.heap.size k (Sk (H := Unit) ks k)) := Lib.hid (owns_drewN (owns_below HO.out HB.out) n2)
      have HN1 : Hid (Below w.heap.size w (w1.drewN n2)) := Lib.hid (below_drewN (HN.out.trans (HB.out.mono HN.out.size)) n2)
      clear HO HB H8 HN
      cases hv : validL s with
      | false =>
        have HR := Lib.hid (HF.out hv)
        go_wp2
        go_ret
        exact ⟨by rw [HR.out]; rfl, HN1.out⟩
      | true =>
        have HA : Hid ((ks.take (k + 1)).all validL = true) := Lib.hid (by rw [HT.out, hall.out, hv]; rfl)
        clear hv HF HT
        obtain ⟨w2, hrun, hown1, hgrow1⟩ := HO1.out.update lawStr Try.underlying64 (by unfold maxLen; omega) hkey.out (unitElem_mk (H := Unit))
        have HW := Lib.hid hown1
        have HG := Lib.hid hgrow1
        clear hown1 hgrow1
        go_wp2
        go_roundw
        case rel => exact ⟨k + 1, by omega, by go_num, HA, by rw [HS.out]; exact HW.out, HN1.out.grown HG.out HN1.out.size (fun j hj => by cases hj; exact Nat.le_refl _)⟩
        case measure => simp [intOf]; omega
    · have hkL2 : k = L := by omega
      subst hkL2
      have hlen := fun ty => HO.out.len Try.underlying64 ty
      go_wp2
      go_ret
      have ha := hall.out
      rw [← HL.out, List.take_length] at ha
      have hfin : ((Maps.size (Sk (H := Unit) ks k) : Int) == (k : Int)) = (ks.all validL && decide (Maps.size (Sk (H := Unit) ks k) = k)) := by
        rw [ha, Bool.true_and]
        by_cases h : Maps.size (Sk (H := Unit) ks k) = k
        · rw [h]; simp
        · rw [decide_eq_false h, beq_eq_false_iff_ne]; omega
      exact ⟨mk_bool hfin, HN.out⟩
end Go.Proofs.Ytaklcjnfjchebaa
namespace Go.Proofs.Ytaklcjnfjchebaa
open Go.RowKit
theorem ret_bool {a b : Bool} (h : a = b) : Ending.returned (.bool a) = .returned (.bool b) := by rw [h]
def isNumM (s : List UInt8) : Bool := (numM s 0).2 && ((numM s 0).1 == s.length)
set_option maxHeartbeats 2000000 in
theorem isNum_any (s : List UInt8) (w : World) (hm : s.length ≤ 1000000) :
    Calls Try.prog 28 #[.string ⟨s.toArray⟩] w fun e w' => e = .returned (.bool (isNumM s)) ∧ Below w.heap.size w w' := by
  have HN := Lib.hid (fun v W (h : Is8 W v s) => number_any v s 0 W h hm (by omega))
  have HF : Hid (isNumM s = ((numM s 0).2 && ((numM s 0).1 == s.length))) := Lib.hid rfl
  have hb := numM_bd s 0 (by omega)
  obtain ⟨R, hR⟩ : ∃ R, numM s 0 = R := ⟨_, rfl⟩
  rw [hR] at HN HF hb
  clear hR
  obtain ⟨q, ok⟩ := R
  have hq : q ≤ s.length := hb.2
  have HN2 : Hid (∀ v W, Is8 W v s → Calls Try.prog 45 #[v, .int .i64 0] W fun e w' => e = .returned (.tuple #[.int .i64 q, .bool ok]) ∧ W = w') := Lib.hid HN.out
  have HF2 : Hid (isNumM s = (ok && (q == s.length))) := Lib.hid HF.out
  clear HN HF hb
  cases ok with
  | false =>
    go_enter Try.func28, Try.ntmps28
    go_wp2_with (refine wpList_toBytes _ (by rfl) 9 29 _ rfl 5 Try.underlying9 Try.underlying29 Try.underlying5 s rfl (by omega) ?_)
    intro b cap w1 h8 hbl hbe
    clear hbe
    go_wp2_with fail
    refine (HN2.out _ _ h8).mono ?_
    rintro e w' ⟨rfl, rfl⟩
    go_wp2_with fail
    go_ret
    exact ⟨ret_bool HF2.out.symm, hbl⟩
  | true =>
    by_cases hql : q = s.length
    · have HF3 : Hid (isNumM s = true) := Lib.hid (by rw [HF2.out, hql]; simp)
      have e1 : ((q : Int) == (s.length : Int)) = true := by rw [hql]; simp
      clear hql
      go_enter Try.func28, Try.ntmps28
      go_wp2_with (refine wpList_toBytes _ (by rfl) 9 29 _ rfl 5 Try.underlying9 Try.underlying29 Try.underlying5 s rfl (by omega) ?_)
      intro b cap w1 h8 hbl hbe
      clear hbe
      go_wp2_with fail
      refine (HN2.out _ _ h8).mono ?_
      rintro e w' ⟨rfl, rfl⟩
      go_wp2_with fail
      go_ret
      exact ⟨ret_bool HF3.out.symm, hbl⟩
    · have HF3 : Hid (isNumM s = false) := Lib.hid (by rw [HF2.out]; simp [hql])
      have e1 : ((q : Int) == (s.length : Int)) = false := by rw [beq_eq_false_iff_ne]; omega
      clear hql
      go_enter Try.func28, Try.ntmps28
      go_wp2_with (refine wpList_toBytes _ (by rfl) 9 29 _ rfl 5 Try.underlying9 Try.underlying29 Try.underlying5 s rfl (by omega) ?_)
      intro b cap w1 h8 hbl hbe
      clear hbe
      go_wp2_with fail
      refine (HN2.out _ _ h8).mono ?_
      rintro e w' ⟨rfl, rfl⟩
      go_wp2_with fail
      go_ret
      exact ⟨ret_bool HF3.out.symm, hbl⟩
structure Text (w : World) (g : Nat) (vb : Value) (b : List UInt8) : Prop where
  is : Is8 w vb b
  ne : 0 < b.length → ∀ bb off l c, vb = .slice (some ⟨bb, off, none⟩) l c → bb ≠ g
  le : b.length ≤ 1000000
theorem Cells.grown {w w' : World} {b off n : Nat} {f : Nat → Value} {row : Option Nat} (h : Cells w b off n f) (hn : 0 < n) (hg : w.grownBy w' row) (hr : row ≠ some b) : Cells w' b off n f := by
  intro i hi
  have hb := h.lt hn
  have e : w'.heap[b]? = w.heap[b]? := hg.block b hb (fun e => hr e.symm)
  have := h i hi
  simp only [World.cell?] at this ⊢
  rw [e]; exact this
theorem IsSl.grown {w w' : World} {v : Value} {n : Nat} {f : Nat → Value} {row : Option Nat} (h : IsSl w v n f) (hg : w.grownBy w' row) (hr : 0 < n → ∀ bb off l c, v = .slice (some ⟨bb, off, none⟩) l c → row ≠ some bb) : IsSl w' v n f := by
  obtain ⟨a, cap, rfl, h1, h2, h3, h4⟩ := h
  refine ⟨a, cap, rfl, h1, h2, h3, fun hn => ?_⟩
  obtain ⟨b, off, rfl, hc⟩ := h4 hn
  exact ⟨b, off, rfl, hc.grown hn hg (hr hn b off n cap rfl)⟩
theorem Text.grown {w w' : World} {g : Nat} {vb : Value} {b : List UInt8} (h : Text w g vb b) (hg : w.grownBy w' (some g)) : Text w' g vb b :=
  ⟨IsSl.grown h.is hg (fun hn bb off l c e => by have := h.ne hn bb off l c e; intro e2; injection e2 with e3; exact this e3.symm), h.ne, h.le⟩
theorem grown_to {w wr : World} {g : Nat} (h : w.grownBy wr (some g)) (k i : Nat) (v : Value) : w.grownBy ((wr.drewN k).setCell ⟨g, i, none⟩ v) (some g) :=
  grownBy_trans (grownBy_trans h (grownBy_drew wr k _)) (grownBy_set _ g i v)
theorem grown_refl (w : World) (r : Option Nat) : w.grownBy w r := ⟨rfl, rfl, rfl, Nat.le_refl _, fun _ _ _ => rfl⟩
structure TextB (w : World) (B : Nat) (vb : Value) (b : List UInt8) : Prop where
  is : Is8 w vb b
  lt : 0 < b.length → ∀ bb off l c, vb = .slice (some ⟨bb, off, none⟩) l c → bb < B
  le : b.length ≤ 1000000
theorem TextB.at {w : World} {B : Nat} {vb : Value} {b : List UInt8} (h : TextB w B vb b) {g : Nat} (hg : B ≤ g) : Text w g vb b :=
  ⟨h.is, fun hn bb off l c e => by have := h.lt hn bb off l c e; omega, h.le⟩
theorem TextB.below {w w' : World} {B : Nat} {vb : Value} {b : List UInt8} (h : TextB w B vb b) (hb : Below B w w') : TextB w' B vb b := by
  refine ⟨?_, h.lt, h.le⟩
  obtain ⟨a, cap, rfl, h1, h2, h3, h4⟩ := h.is
  refine ⟨a, cap, rfl, h1, h2, h3, fun hn => ?_⟩
  obtain ⟨bb, off, rfl, hc⟩ := h4 hn
  exact ⟨bb, off, rfl, Cells.below hc hb (h.lt hn bb off _ _ rfl)⟩
theorem Text.drew {w : World} {g : Nat} {vb : Value} {b : List UInt8} (h : Text w g vb b) (k : Nat) : Text (w.drewN k) g vb b := ⟨h.is, h.ne, h.le⟩
theorem textB_of {w : World} {vb : Value} {b : List UInt8} (hv : Is8 w vb b) (hm : b.length ≤ 1000000) : TextB w w.heap.size vb b :=
  ⟨hv, fun hn bb off l c e => by
    obtain ⟨a, cap, e2, h1, h2, h3, h4⟩ := hv
    obtain ⟨bb2, off2, e3, hc⟩ := h4 hn
    subst e2
    injection e with e4
    rw [e3] at e4
    injection e4 with e5
    injection e5 with e6
    have := hc.lt hn
    omega, hm⟩
def notB (t : Bool) : Bool := !t
def leftOf (g m : Nat) (w : World) : Nat := match w.cell? ⟨g, 1, none⟩ with | some (.int _ x) => m - x.toNat | _ => 0
def Scn (w : World) (g : Nat) (vb : Value) (i : Nat) (bad : Bool) : Prop := Box w g 57 [vb, .int .i64 i, .bool bad]
theorem Scn.c0 {w : World} {g : Nat} {vb : Value} {i : Nat} {bad : Bool} (h : Scn w g vb i bad) : w.cell? ⟨g, 0, none⟩ = some vb := by rw [Box.cell h]; rfl
theorem Scn.c1 {w : World} {g : Nat} {vb : Value} {i : Nat} {bad : Bool} (h : Scn w g vb i bad) : w.cell? ⟨g, 1, none⟩ = some (.int .i64 i) := by rw [Box.cell h]; rfl
theorem Scn.c2 {w : World} {g : Nat} {vb : Value} {i : Nat} {bad : Bool} (h : Scn w g vb i bad) : w.cell? ⟨g, 2, none⟩ = some (.bool bad) := by rw [Box.cell h]; rfl
theorem Scn.to {w : World} {g : Nat} {vb : Value} {i : Nat} {bad : Bool} (h : Scn w g vb i bad) (k j : Nat) (x : Int) (hx : x = (j : Int)) : Scn ((w.drewN k).setCell ⟨g, 1, none⟩ (.int .i64 x)) g vb j bad := by
  subst hx
  exact Box.set (Box.drew h k) 1 (by simp) _
theorem Scn.bad {w : World} {g : Nat} {vb : Value} {i : Nat} {bad : Bool} (h : Scn w g vb i bad) (k : Nat) : Scn ((w.drewN k).setCell ⟨g, 2, none⟩ (.bool true)) g vb i true := Box.set (Box.drew h k) 2 (by simp) _
def memB (c : Int) (l : List UInt8) : Bool := l.any fun x => (x.toNat : Int) == c
theorem memB_step {c : Int} {l : List UInt8} {j : Nat} (h : j < l.length) : memB c (l.drop j) = ((byt l j == c) || memB c (l.drop (j + 1))) := by
  rw [List.drop_eq_getElem_cons h]
  have e : byt l j = ((l[j]).toNat : Int) := by unfold byt; simp [List.getD, h]
  rw [e]; rfl
def isB (b : List UInt8) (bad : Bool) (i : Nat) (l : List UInt8) : Bool := !bad && (decide (i < b.length) && memB (byt b i) l)
theorem isB_lt {b : List UInt8} {bad : Bool} {i : Nat} {l : List UInt8} (h : isB b bad i l = true) : i < b.length := by
  unfold isB at h; simp at h; exact h.2.1
set_option maxRecDepth 100000 in
set_option maxHeartbeats 4000000 in
theorem is_any (g : Nat) (vb : Value) (b : List UInt8) (i : Nat) (bad : Bool) (l : List UInt8) (w : World) (hs : Scn w g vb i bad) (ht : Text w g vb b) (hl : l.length ≤ 1000) (hi : i ≤ 2000000) :
    Calls Try.prog 47 #[.pointer (some ⟨g, 0, none⟩), .string ⟨l.toArray⟩] w fun e w' => e = .returned (.bool (isB b bad i l)) ∧ ∃ n, w' = w.drewN n := by
  have hm := ht.le
  have d0 := hs.c0
  have d1 := hs.c1
  have d2 := hs.c2
  have HT := Lib.hid ht
  clear hs ht
  obtain ⟨a, cap, e, h1, h2, -, h4⟩ := HT.out.is
  subst e
  unfold maxLen at h2
  cases bad with
  | true =>
    clear h4
    go_enter Try.func47, Try.ntmps47
    go_wp2_with fail
    go_quiet (fail)
    go_wp2_with fail
    go_ret
    exact ⟨rfl, _, rfl⟩
  | false =>
    by_cases hlt : i < b.length
    · obtain ⟨bb, off, rfl, hc⟩ := h4 (by omega)
      have hcell : w.cell? ⟨bb, off + i, none⟩ = some (.int .u8 (byt b i)) := hc.at i hlt
      have hltI : (i : Int) < (b.length : Int) := by omega
      have hgd : decide ((b.length : Int) ≤ (i : Int)) = false := by simp; omega
      have HI : Hid (isB b false i l = memB (byt b i) l) := Lib.hid (by unfold isB; simp [hlt])
      obtain ⟨c, hcc⟩ : ∃ c, byt b i = c := ⟨_, rfl⟩
      rw [hcc] at hcell HI
      clear hcc hc h4
      have HMS := Lib.hid (fun j (h : j < l.length) => memB_step (c := c) h)
      go_enter Try.func47, Try.ntmps47
      go_wp2_with fail
      go_quiet (fail)
      go_wp2_with fail
      go_loopw [5] (fun tj wr => ∃ j : Nat, j ≤ l.length ∧ tj = .int .i64 j ∧ Hid (memB c l = memB c (l.drop j)) ∧ ∃ m, wr = w.drewN m) (fun tj _ => l.length - (intOf tj).toNat)
      case atStart => exact ⟨0, Nat.zero_le _, rfl, Lib.hid rfl, _, rfl⟩
      case round =>
        obtain ⟨j, hj, rfl, HE, m, rfl⟩ := hrel
        by_cases hlt2 : j < l.length
        · have hlt2I : (j : Int) < (l.length : Int) := by omega
          have HST := Lib.hid (HE.out.trans (HMS.out j hlt2))
          by_cases hq : c = byt l j
          · have g1 : (c == byt l j) = true := by simpa using hq
            have HF : Hid (isB b false i l = true) := Lib.hid (by rw [HI.out, HST.out, hq]; simp)
            clear hq
            go_wp2_with fail
            go_quiet (fail)
            go_wp2_with fail
            go_ret
            exact ⟨ret_b HF.out.symm, _, by first | rfl | (rw [World.drewN_drewN])⟩
          · have g1 : (c == byt l j) = false := by simpa using hq
            have HF : Hid (memB c l = memB c (l.drop (j + 1))) := Lib.hid (by
              rw [HST.out]
              have : (byt l j == c) = false := by rw [beq_eq_false_iff_ne]; exact fun h => hq h.symm
              rw [this]; rfl)
            clear hq
            go_wp2_with fail
            go_quiet (fail)
            go_wp2_with fail
            exact ⟨⟨j + 1, by omega, by go_num, HF, _, by first | rfl | (rw [World.drewN_drewN])⟩, by simp [intOf]; omega⟩
        · have HF : Hid (isB b false i l = false) := Lib.hid (by rw [HI.out, HE.out, List.drop_of_length_le (by omega)]; rfl)
          have hlt2I : (l.length : Int) ≤ (j : Int) := by omega
          go_wp2_with fail
          go_ret
          exact ⟨ret_b HF.out.symm, _, rfl⟩
    · have HI : Hid (isB b false i l = false) := Lib.hid (by unfold isB; simp; omega)
      have hgd : decide ((b.length : Int) ≤ (i : Int)) = true := by simp; omega
      clear h4
      go_enter Try.func47, Try.ntmps47
      go_wp2_with fail
      go_quiet (fail)
      go_wp2_with fail
      go_ret
      exact ⟨ret_b HI.out.symm, _, rfl⟩
def stepI (t : Bool) (i : Nat) : Nat := if t = true then i + 1 else i
set_option maxHeartbeats 4000000 in
theorem take_any (g : Nat) (vb : Value) (b : List UInt8) (i : Nat) (bad : Bool) (l : List UInt8) (w : World) (hs : Scn w g vb i bad) (ht : Text w g vb b) (hl : l.length ≤ 1000) (hi : i ≤ 2000000) :
    Calls Try.prog 39 #[.pointer (some ⟨g, 0, none⟩), .string ⟨l.toArray⟩] w fun e w' => e = .returned (.bool (isB b bad i l)) ∧ Scn w' g vb (stepI (isB b bad i l) i) bad ∧ w.grownBy w' (some g) := by
  have HS := Lib.hid hs
  have HI := Lib.hid (is_any g vb b i bad l w hs ht hl hi)
  have d1 := hs.c1
  have fz : w.frozen? ⟨g, 1, none⟩ = false := Box.frozen hs 1
  obtain ⟨t, htt⟩ : ∃ t, isB b bad i l = t := ⟨_, rfl⟩
  rw [htt] at HI
  rw [htt]
  clear hs ht htt
  cases t with
  | true =>
    go_enter Try.func39, Try.ntmps39
    go_wp2_with fail
    refine HI.out.mono ?_
    rintro e w' ⟨rfl, k, rfl⟩
    go_wp2_with fail
    go_ret
    exact ⟨rfl, HS.out.to _ (i + 1) _ (by omega), grown_to (grown_refl _ _) _ 1 _⟩
  | false =>
    go_enter Try.func39, Try.ntmps39
    go_wp2_with fail
    refine HI.out.mono ?_
    rintro e w' ⟨rfl, k, rfl⟩
    go_wp2_with fail
    go_ret
    exact ⟨rfl, Box.drew HS.out _, grownBy_drew _ _ _⟩
def digL : List UInt8 := [48, 49, 50, 51, 52, 53, 54, 55, 56, 57]
theorem memB_dig (c : Int) : memB c digL = digC c := by
  unfold memB digC digL
  rw [Bool.eq_iff_iff]
  simp
  omega
theorem isB_dig {b : List UInt8} {i : Nat} : isB b false i digL = digC (byt b i) := by
  unfold isB
  rw [memB_dig]
  cases h : digC (byt b i) with
  | true => have := digC_lt h; simp [this]
  | false => simp
theorem isB_bad (b : List UInt8) (i : Nat) (l : List UInt8) : isB b true i l = false := rfl
def dgS (b : List UInt8) (i : Nat) (bad : Bool) : Nat × Bool := if isB b bad i digL = true then (digE b (i + 1), bad) else (i, true)
theorem Text.to {w w' : World} {g : Nat} {vb : Value} {b : List UInt8} (h : Text w g vb b) (hg : w.grownBy w' (some g)) : Text w' g vb b := h.grown hg
set_option maxRecDepth 100000 in
set_option maxHeartbeats 4000000 in
theorem digits_any (g : Nat) (vb : Value) (b : List UInt8) (i : Nat) (bad : Bool) (w : World) (hs : Scn w g vb i bad) (ht : Text w g vb b) (hi : i ≤ b.length) :
    Calls Try.prog 59 #[.pointer (some ⟨g, 0, none⟩)] w fun e w' => e = .returned (.tuple #[]) ∧ Scn w' g vb (dgS b i bad).1 (dgS b i bad).2 ∧ w.grownBy w' (some g) := by
  have hm := ht.le
  have HT := Lib.hid ht
  have HS := Lib.hid hs
  have HTK := Lib.hid (take_any g vb b i bad digL w hs ht (by decide) (by omega))
  have HD : Hid (dgS b i bad = if isB b bad i digL = true then (digE b (i + 1), bad) else (i, true)) := Lib.hid rfl
  clear hs ht
  cases htb : isB b bad i digL with
  | false =>
    have HF : Hid (dgS b i bad = (i, true)) := Lib.hid (by rw [HD.out, htb]; rfl)
    rw [htb] at HTK
    clear htb HD
    go_enter Try.func59, Try.ntmps59
    go_wp2_with fail
    refine HTK.out.mono ?_
    rintro e x1 ⟨rfl, hs1, hg1⟩
    have HS1 := Lib.hid hs1
    have HG1 := Lib.hid hg1
    have e2 : x1.cell? ⟨g, 2, none⟩ = some (.bool bad) := Scn.c2 hs1
    have f2 : x1.frozen? ⟨g, 2, none⟩ = false := Box.frozen hs1 2
    clear hs1 hg1
    go_wp2_with fail
    go_loopw [] (fun wr => Scn wr g vb i true ∧ w.grownBy wr (some g)) (fun wr => 0)
    case atStart => exact ⟨Scn.bad HS1.out 0, grown_to HG1.out 0 2 _⟩
    case round =>
      obtain ⟨hsr, hgr⟩ := hrel
      have HSR := Lib.hid hsr
      have HGR := Lib.hid hgr
      have HTK2 := Lib.hid (take_any g vb b i true digL wr hsr (HT.out.grown hgr) (by decide) (by omega))
      rw [isB_bad] at HTK2
      clear hsr hgr
      go_wp2_with fail
      refine HTK2.out.mono ?_
      rintro e x2 ⟨rfl, hs2, hg2⟩
      have HS2 := Lib.hid hs2
      have HG2 := Lib.hid (grownBy_trans HGR.out hg2)
      clear hs2 hg2
      go_wp2_with fail
      go_end0
      exact ⟨rfl, by rw [HF.out]; exact HS2.out, HG2.out⟩
  | true =>
    have hlt := isB_lt htb
    have hbad : bad = false := by cases bad with
      | false => rfl
      | true => cases htb
    subst hbad
    have HF : Hid (dgS b i false = (digE b (i + 1), false)) := Lib.hid (by rw [HD.out, htb]; rfl)
    rw [htb] at HTK
    clear htb HD
    go_enter Try.func59, Try.ntmps59
    go_wp2_with fail
    refine HTK.out.mono ?_
    rintro e x1 ⟨rfl, hs1, hg1⟩
    have HS1 := Lib.hid hs1
    have HG1 := Lib.hid hg1
    clear hs1 hg1
    go_wp2_with fail
    go_loopw [] (fun wr => ∃ j, j ≤ b.length ∧ Hid (digE b (i + 1) = digE b j) ∧ Scn wr g vb j false ∧ w.grownBy wr (some g)) (fun wr => leftOf g (b.length + 1) wr)
    case atStart => exact ⟨i + 1, by omega, Lib.hid rfl, HS1.out, HG1.out⟩
    case round =>
      obtain ⟨j, hj, HE, hsr, hgr⟩ := hrel
      have HSR := Lib.hid hsr
      have HGR := Lib.hid hgr
      have HTK2 := Lib.hid (take_any g vb b j false digL wr hsr (HT.out.grown hgr) (by decide) (by omega))
      rw [isB_dig] at HTK2
      have HLJ : Hid (leftOf g (b.length + 1) wr = b.length + 1 - j) := Lib.hid (by unfold leftOf; rw [Scn.c1 hsr]; simp)
      clear hsr hgr
      cases hd : digC (byt b j) with
      | true =>
        have hl := digC_lt hd
        have H2 := Lib.hid (HE.out.trans (digE_on hd))
        rw [hd] at HTK2
        clear hd
        go_wp2_with fail
        refine HTK2.out.mono ?_
        rintro e x2 ⟨rfl, hs2, hg2⟩
        have HS2 := Lib.hid hs2
        have HG2 := Lib.hid (grownBy_trans HGR.out hg2)
        clear hs2 hg2
        go_wp2_with fail
        exact ⟨⟨j + 1, by omega, H2, HS2.out, HG2.out⟩, by rw [HLJ.out, show leftOf g (b.length + 1) x2 = b.length + 1 - (j + 1) by unfold leftOf; rw [Scn.c1 HS2.out]; simp [stepI]]; omega⟩
      | false =>
        have H2 := Lib.hid (HE.out.trans (digE_off hd))
        rw [hd] at HTK2
        clear hd
        go_wp2_with fail
        refine HTK2.out.mono ?_
        rintro e x2 ⟨rfl, hs2, hg2⟩
        have HS2 := Lib.hid hs2
        have HG2 := Lib.hid (grownBy_trans HGR.out hg2)
        clear hs2 hg2
        go_wp2_with fail
        go_end0
        exact ⟨rfl, by rw [HF.out, H2.out]; exact HS2.out, HG2.out⟩
theorem digits_bd (b : List UInt8) (i : Nat) (bad : Bool) (h : i ≤ b.length) : i ≤ (dgS b i bad).1 ∧ (dgS b i bad).1 ≤ b.length := by
  unfold dgS
  split
  · rename_i h1
    have := isB_lt h1
    have := digE_bd b (i + 1) (by omega)
    show i ≤ digE b (i + 1) ∧ _; omega
  · exact ⟨Nat.le_refl _, h⟩
theorem step_bd (b : List UInt8) (i : Nat) (bad : Bool) (l : List UInt8) (h : i ≤ b.length) : i ≤ stepI (isB b bad i l) i ∧ stepI (isB b bad i l) i ≤ b.length := by
  unfold stepI
  split
  · rename_i h1
    have := isB_lt h1; omega
  · exact ⟨Nat.le_refl _, h⟩
def nr1 (b : List UInt8) (i : Nat) : Nat := stepI (isB b false i [45]) i
def nr2 (b : List UInt8) (i : Nat) : Nat × Bool := if isB b false (nr1 b i) [48] = true then (nr1 b i + 1, false) else dgS b (nr1 b i) false
def nr3 (b : List UInt8) (s : Nat × Bool) : Nat × Bool := if isB b s.2 s.1 [46] = true then dgS b (s.1 + 1) s.2 else s
def nr4 (b : List UInt8) (s : Nat × Bool) : Nat × Bool := if isB b s.2 s.1 [101, 69] = true then dgS b (stepI (isB b s.2 (s.1 + 1) [43, 45]) (s.1 + 1)) s.2 else s
def numR (b : List UInt8) (i : Nat) : Nat × Bool := nr4 b (nr3 b (nr2 b i))
theorem isB_one {b : List UInt8} {i : Nat} {c : UInt8} (hc : (c.toNat : Int) ≠ 0) : isB b false i [c] = (byt b i == (c.toNat : Int)) := by
  unfold isB memB
  rw [Bool.eq_iff_iff]
  simp
  constructor
  · rintro ⟨_, h⟩; exact h.symm
  · intro h; exact ⟨byt_lt h hc, h.symm⟩
theorem isB_two {b : List UInt8} {i : Nat} {c d : UInt8} (hc : (c.toNat : Int) ≠ 0) (hd : (d.toNat : Int) ≠ 0) : isB b false i [c, d] = ((byt b i == (c.toNat : Int)) || (byt b i == (d.toNat : Int))) := by
  unfold isB memB
  rw [Bool.eq_iff_iff]
  simp
  constructor
  · rintro ⟨_, h | h⟩
    · exact .inl h.symm
    · exact .inr h.symm
  · rintro (h | h)
    · exact ⟨byt_lt h hc, .inl h.symm⟩
    · exact ⟨byt_lt h hd, .inr h.symm⟩
theorem nr4_eq (b : List UInt8) (i : Nat) : nr4 b (i, false) = ((expM b i).1, !(expM b i).2) := by
  show (if isB b false i [101, 69] = true then dgS b (stepI (isB b false (i + 1) [43, 45]) (i + 1)) false else (i, false)) = _
  rw [isB_two (by decide) (by decide), isB_two (by decide) (by decide)]
  unfold expM
  by_cases h1 : byt b i = 101 ∨ byt b i = 69
  · rw [if_pos h1, if_pos (by simpa using h1)]
    have hs : stepI ((byt b (i + 1) == ((43 : UInt8).toNat : Int)) || (byt b (i + 1) == ((45 : UInt8).toNat : Int))) (i + 1) = (if byt b (i + 1) = 43 ∨ byt b (i + 1) = 45 then i + 2 else i + 1) := by
      unfold stepI
      by_cases h2 : byt b (i + 1) = 43 ∨ byt b (i + 1) = 45
      · rw [if_pos h2, if_pos (by simpa using h2)]
      · rw [if_neg h2, if_neg (by simpa using h2)]
    rw [hs]
    generalize (if byt b (i + 1) = 43 ∨ byt b (i + 1) = 45 then i + 2 else i + 1) = j
    unfold dgS
    rw [isB_dig]
    by_cases h3 : digC (byt b j) = true
    · rw [if_pos h3, if_pos h3, digE_on h3]; rfl
    · rw [if_neg h3, if_neg h3]; rfl
  · rw [if_neg h1, if_neg (by simpa using h1)]; rfl
theorem nr4_bad (b : List UInt8) (i : Nat) : nr4 b (i, true) = (i, true) := rfl
theorem nr3_eq (b : List UInt8) (i : Nat) : nr4 b (nr3 b (i, false)) = ((fracM b i).1, !(fracM b i).2) := by
  show nr4 b (if isB b false i [46] = true then dgS b (i + 1) false else (i, false)) = _
  rw [isB_one (by decide)]
  unfold fracM
  by_cases h1 : byt b i = 46
  · rw [if_pos h1, if_pos (by simpa using h1)]
    unfold dgS
    rw [isB_dig]
    by_cases h3 : digC (byt b (i + 1)) = true
    · rw [if_pos h3, if_pos h3, digE_on h3, nr4_eq]
    · rw [if_neg h3, if_neg h3, nr4_bad]; rfl
  · rw [if_neg h1, if_neg (by simpa using h1), nr4_eq]
theorem numR_eq (b : List UInt8) (i : Nat) : numR b i = ((numM b i).1, !(numM b i).2) := by
  unfold numR numM
  have h1 : nr1 b i = (if byt b i = 45 then i + 1 else i) := by
    unfold nr1 stepI
    rw [isB_one (by decide)]
    by_cases h : byt b i = 45
    · rw [if_pos h, if_pos (by simpa using h)]
    · rw [if_neg h, if_neg (by simpa using h)]
  unfold nr2
  rw [h1]
  generalize (if byt b i = 45 then i + 1 else i) = p
  unfold intM
  rw [isB_one (by decide)]
  by_cases h2 : byt b p = 48
  · rw [if_pos h2, if_pos (by simpa using h2), nr3_eq]
  · rw [if_neg h2, if_neg (by simpa using h2)]
    unfold dgS
    rw [isB_dig]
    by_cases h3 : digC (byt b p) = true
    · rw [if_pos h3, if_pos h3, ← digE_on h3, nr3_eq]
    · rw [if_neg h3, if_neg h3]; rfl
set_option maxRecDepth 100000 in
set_option maxHeartbeats 8000000 in
theorem rnum_any (g : Nat) (vb : Value) (b : List UInt8) (i : Nat) (w : World) (hs : Scn w g vb i false) (ht : Text w g vb b) (hi : i ≤ b.length) :
    Calls Try.prog 48 #[.pointer (some ⟨g, 0, none⟩)] w fun e w' => e = .returned (.tuple #[]) ∧ Scn w' g vb (numR b i).1 (numR b i).2 ∧ w.grownBy w' (some g) := by
  have hm := ht.le
  have HT := Lib.hid ht
  have HS := Lib.hid hs
  have HG := Lib.hid (grown_refl w (some g))
  obtain ⟨h1a, h1b⟩ := step_bd b i false [45] hi
  have HN : Hid (numR b i = nr4 b (nr3 b (if isB b false (stepI (isB b false i [45]) i) [48] = true then (stepI (isB b false i [45]) i + 1, false) else dgS b (stepI (isB b false i [45]) i) false))) := Lib.hid rfl
  clear hs ht
  go_enter Try.func48, Try.ntmps48
  go_wp2_with fail
  refine (take_any g vb b i false [45] _ HS.out (HT.out.grown HG.out) (by decide) (by omega)).mono ?_
  rintro e y1 ⟨rfl, hs1, hg1⟩
  have HS1 := Lib.hid hs1
  have HG1 := Lib.hid (grownBy_trans HG.out hg1)
  clear hs1 hg1
  obtain ⟨p, hp⟩ : ∃ p, stepI (isB b false i [45]) i = p := ⟨_, rfl⟩
  rw [hp] at HN h1a h1b HS1
  clear hp
  have HLT1 : Hid (isB b false p [48] = true → p < b.length) := Lib.hid isB_lt
  go_wp2_with fail
  refine (take_any g vb b p false [48] _ HS1.out (HT.out.grown HG1.out) (by decide) (by omega)).mono ?_
  rintro e y2 ⟨rfl, hs2, hg2⟩
  have HS2 := Lib.hid hs2
  have HG2 := Lib.hid (grownBy_trans HG1.out hg2)
  clear hs2 hg2
  obtain ⟨t1, ht1⟩ : ∃ t, isB b false p [48] = t := ⟨_, rfl⟩
  rw [ht1] at HN HLT1 HS2
  rw [ht1]
  clear ht1
  cases t1 with
  | true =>
    have hp1 := HLT1.out rfl
    obtain ⟨m, hme⟩ : ∃ m, p + 1 = m := ⟨_, rfl⟩
    obtain ⟨bd2, hbe⟩ : ∃ x, false = x := ⟨_, rfl⟩
    have H2 : Hid (numR b i = nr4 b (nr3 b (m, bd2))) := Lib.hid (by rw [HN.out, ← hme, ← hbe]; rfl)
    have HS2b : Hid (Scn _ g vb m bd2) := Lib.hid (by rw [← hme, ← hbe]; exact HS2.out)
    have hmm : m ≤ b.length := by omega
    clear hme hbe
    have H3 : Hid (nr3 b (m, bd2) = if isB b bd2 m [46] = true then dgS b (m + 1) bd2 else (m, bd2)) := Lib.hid rfl
    have HLT3 : Hid (isB b bd2 m [46] = true → m < b.length) := Lib.hid isB_lt
    go_wp2_with fail
    refine (take_any g vb b m bd2 [46] _ HS2b.out (HT.out.grown HG2.out) (by decide) (by omega)).mono ?_
    rintro e y4 ⟨rfl, hs4, hg4⟩
    have HS4 := Lib.hid hs4
    have HG4 := Lib.hid (grownBy_trans HG2.out hg4)
    clear hs4 hg4
    obtain ⟨t2, ht2⟩ : ∃ t, isB b bd2 m [46] = t := ⟨_, rfl⟩
    rw [ht2] at H3 HLT3 HS4
    rw [ht2]
    clear ht2
    cases t2 with
    | false =>
      obtain ⟨r, hre⟩ : ∃ r, m = r := ⟨_, rfl⟩
      obtain ⟨bd3, hbe⟩ : ∃ x, bd2 = x := ⟨_, rfl⟩
      have H3' : Hid (numR b i = nr4 b (r, bd3)) := Lib.hid (by rw [H2.out, H3.out, hre, hbe]; rfl)
      have HS4b : Hid (Scn _ g vb r bd3) := Lib.hid (by rw [← hre, ← hbe]; exact HS4.out)
      have hr : r ≤ b.length := by omega
      clear hre hbe
      have H4 : Hid (nr4 b (r, bd3) = if isB b bd3 r [101, 69] = true then dgS b (stepI (isB b bd3 (r + 1) [43, 45]) (r + 1)) bd3 else (r, bd3)) := Lib.hid rfl
      have HLT : Hid (isB b bd3 r [101, 69] = true → r < b.length) := Lib.hid isB_lt
      go_wp2_with fail
      refine (take_any g vb b r bd3 [101, 69] _ HS4b.out (HT.out.grown HG4.out) (by decide) (by omega)).mono ?_
      rintro e y6 ⟨rfl, hs6, hg6⟩
      have HS6 := Lib.hid hs6
      have HG6 := Lib.hid (grownBy_trans HG4.out hg6)
      clear hs6 hg6
      obtain ⟨t3, ht3⟩ : ∃ t, isB b bd3 r [101, 69] = t := ⟨_, rfl⟩
      rw [ht3] at H4 HLT HS6
      rw [ht3]
      clear ht3
      cases t3 with
      | false =>
        have HF : Hid (numR b i = (r, bd3)) := Lib.hid (H3'.out.trans H4.out)
        go_wp2_with fail
        go_end0
        exact ⟨rfl, by rw [HF.out]; exact HS6.out, HG6.out⟩
      | true =>
        have hr1 := HLT.out rfl
        have HF0 : Hid (numR b i = dgS b (stepI (isB b bd3 (r + 1) [43, 45]) (r + 1)) bd3) := Lib.hid (H3'.out.trans H4.out)
        obtain ⟨h5a, h5b⟩ := step_bd b (r + 1) bd3 [43, 45] (by omega)
        have HS6b : Hid (Scn _ g vb (r + 1) bd3) := HS6
        go_wp2_with fail
        refine (take_any g vb b (r + 1) bd3 [43, 45] _ HS6b.out (HT.out.grown HG6.out) (by decide) (by omega)).mono ?_
        rintro e y7 ⟨rfl, hs7, hg7⟩
        have HS7 := Lib.hid hs7
        have HG7 := Lib.hid (grownBy_trans HG6.out hg7)
        clear hs7 hg7
        obtain ⟨q, hq⟩ : ∃ q, stepI (isB b bd3 (r + 1) [43, 45]) (r + 1) = q := ⟨_, rfl⟩
        rw [hq] at HF0 h5a h5b HS7
        clear hq
        go_wp2_with fail
        refine (digits_any g vb b q bd3 _ HS7.out (HT.out.grown HG7.out) (by omega)).mono ?_
        rintro e y8 ⟨rfl, hs8, hg8⟩
        have HS8 := Lib.hid hs8
        have HG8 := Lib.hid (grownBy_trans HG7.out hg8)
        clear hs8 hg8
        go_wp2_with fail
        go_end0
        exact ⟨rfl, by rw [HF0.out]; exact HS8.out, HG8.out⟩
    | true =>
      have hm1 := HLT3.out rfl
      have HS4b : Hid (Scn _ g vb (m + 1) bd2) := HS4
      obtain ⟨h3a, h3b⟩ := digits_bd b (m + 1) bd2 (by omega)
      go_wp2_with fail
      refine (digits_any g vb b (m + 1) bd2 _ HS4b.out (HT.out.grown HG4.out) (by omega)).mono ?_
      rintro e y5 ⟨rfl, hs5, hg5⟩
      have HS5 := Lib.hid hs5
      have HG5 := Lib.hid (grownBy_trans HG4.out hg5)
      clear hs5 hg5
      obtain ⟨R3, hR3⟩ : ∃ R, dgS b (m + 1) bd2 = R := ⟨_, rfl⟩
      have H3' : Hid (numR b i = nr4 b R3) := Lib.hid (by rw [H2.out, H3.out, ← hR3]; rfl)
      rw [hR3] at h3a h3b HS5
      clear hR3
      obtain ⟨r, bd3⟩ := R3
      have hr : r ≤ b.length := h3b
      have HS5c : Hid (Scn _ g vb r bd3) := HS5
      have H4 : Hid (nr4 b (r, bd3) = if isB b bd3 r [101, 69] = true then dgS b (stepI (isB b bd3 (r + 1) [43, 45]) (r + 1)) bd3 else (r, bd3)) := Lib.hid rfl
      have HLT : Hid (isB b bd3 r [101, 69] = true → r < b.length) := Lib.hid isB_lt
      go_wp2_with fail
      refine (take_any g vb b r bd3 [101, 69] _ HS5c.out (HT.out.grown HG5.out) (by decide) (by omega)).mono ?_
      rintro e y9 ⟨rfl, hs9, hg9⟩
      have HS9 := Lib.hid hs9
      have HG9 := Lib.hid (grownBy_trans HG5.out hg9)
      clear hs9 hg9
      obtain ⟨t3, ht3⟩ : ∃ t, isB b bd3 r [101, 69] = t := ⟨_, rfl⟩
      rw [ht3] at H4 HLT HS9
      rw [ht3]
      clear ht3
      cases t3 with
      | false =>
        have HF : Hid (numR b i = (r, bd3)) := Lib.hid (H3'.out.trans H4.out)
        go_wp2_with fail
        go_end0
        exact ⟨rfl, by rw [HF.out]; exact HS9.out, HG9.out⟩
      | true =>
        have hr1 := HLT.out rfl
        have HF0 : Hid (numR b i = dgS b (stepI (isB b bd3 (r + 1) [43, 45]) (r + 1)) bd3) := Lib.hid (H3'.out.trans H4.out)
        obtain ⟨h5a, h5b⟩ := step_bd b (r + 1) bd3 [43, 45] (by omega)
        have HS9b : Hid (Scn _ g vb (r + 1) bd3) := HS9
        go_wp2_with fail
        refine (take_any g vb b (r + 1) bd3 [43, 45] _ HS9b.out (HT.out.grown HG9.out) (by decide) (by omega)).mono ?_
        rintro e y10 ⟨rfl, hs10, hg10⟩
        have HS10 := Lib.hid hs10
        have HG10 := Lib.hid (grownBy_trans HG9.out hg10)
        clear hs10 hg10
        obtain ⟨q, hq⟩ : ∃ q, stepI (isB b bd3 (r + 1) [43, 45]) (r + 1) = q := ⟨_, rfl⟩
        rw [hq] at HF0 h5a h5b HS10
        clear hq
        go_wp2_with fail
        refine (digits_any g vb b q bd3 _ HS10.out (HT.out.grown HG10.out) (by omega)).mono ?_
        rintro e y11 ⟨rfl, hs11, hg11⟩
        have HS11 := Lib.hid hs11
        have HG11 := Lib.hid (grownBy_trans HG10.out hg11)
        clear hs11 hg11
        go_wp2_with fail
        go_end0
        exact ⟨rfl, by rw [HF0.out]; exact HS11.out, HG11.out⟩
  | false =>
    have HS2b : Hid (Scn _ g vb p false) := HS2
    obtain ⟨h2a, h2b⟩ := digits_bd b p false h1b
    go_wp2_with fail
    refine (digits_any g vb b p false _ HS2b.out (HT.out.grown HG2.out) (by omega)).mono ?_
    rintro e y3 ⟨rfl, hs3, hg3⟩
    have HS3 := Lib.hid hs3
    have HG3 := Lib.hid (grownBy_trans HG2.out hg3)
    clear hs3 hg3
    obtain ⟨R2, hR2⟩ : ∃ R, dgS b p false = R := ⟨_, rfl⟩
    have H2 : Hid (numR b i = nr4 b (nr3 b R2)) := Lib.hid (by rw [HN.out, ← hR2]; rfl)
    rw [hR2] at h2a h2b HS3
    clear hR2
    obtain ⟨m, bd2⟩ := R2
    have hmm : m ≤ b.length := h2b
    have HS3c : Hid (Scn _ g vb m bd2) := HS3
    have H3 : Hid (nr3 b (m, bd2) = if isB b bd2 m [46] = true then dgS b (m + 1) bd2 else (m, bd2)) := Lib.hid rfl
    have HLT3 : Hid (isB b bd2 m [46] = true → m < b.length) := Lib.hid isB_lt
    go_wp2_with fail
    refine (take_any g vb b m bd2 [46] _ HS3c.out (HT.out.grown HG3.out) (by decide) (by omega)).mono ?_
    rintro e y12 ⟨rfl, hs12, hg12⟩
    have HS12 := Lib.hid hs12
    have HG12 := Lib.hid (grownBy_trans HG3.out hg12)
    clear hs12 hg12
    obtain ⟨t2, ht2⟩ : ∃ t, isB b bd2 m [46] = t := ⟨_, rfl⟩
    rw [ht2] at H3 HLT3 HS12
    rw [ht2]
    clear ht2
    cases t2 with
    | false =>
      obtain ⟨r, hre⟩ : ∃ r, m = r := ⟨_, rfl⟩
      obtain ⟨bd3, hbe⟩ : ∃ x, bd2 = x := ⟨_, rfl⟩
      have H3' : Hid (numR b i = nr4 b (r, bd3)) := Lib.hid (by rw [H2.out, H3.out, hre, hbe]; rfl)
      have HS12b : Hid (Scn _ g vb r bd3) := Lib.hid (by rw [← hre, ← hbe]; exact HS12.out)
      have hr : r ≤ b.length := by omega
      clear hre hbe
      have H4 : Hid (nr4 b (r, bd3) = if isB b bd3 r [101, 69] = true then dgS b (stepI (isB b bd3 (r + 1) [43, 45]) (r + 1)) bd3 else (r, bd3)) := Lib.hid rfl
      have HLT : Hid (isB b bd3 r [101, 69] = true → r < b.length) := Lib.hid isB_lt
      go_wp2_with fail
      refine (take_any g vb b r bd3 [101, 69] _ HS12b.out (HT.out.grown HG12.out) (by decide) (by omega)).mono ?_
      rintro e y14 ⟨rfl, hs14, hg14⟩
      have HS14 := Lib.hid hs14
      have HG14 := Lib.hid (grownBy_trans HG12.out hg14)
      clear hs14 hg14
      obtain ⟨t3, ht3⟩ : ∃ t, isB b bd3 r [101, 69] = t := ⟨_, rfl⟩
      rw [ht3] at H4 HLT HS14
      rw [ht3]
      clear ht3
      cases t3 with
      | false =>
        have HF : Hid (numR b i = (r, bd3)) := Lib.hid (H3'.out.trans H4.out)
        go_wp2_with fail
        go_end0
        exact ⟨rfl, by rw [HF.out]; exact HS14.out, HG14.out⟩
      | true =>
        have hr1 := HLT.out rfl
        have HF0 : Hid (numR b i = dgS b (stepI (isB b bd3 (r + 1) [43, 45]) (r + 1)) bd3) := Lib.hid (H3'.out.trans H4.out)
        obtain ⟨h5a, h5b⟩ := step_bd b (r + 1) bd3 [43, 45] (by omega)
        have HS14b : Hid (Scn _ g vb (r + 1) bd3) := HS14
        go_wp2_with fail
        refine (take_any g vb b (r + 1) bd3 [43, 45] _ HS14b.out (HT.out.grown HG14.out) (by decide) (by omega)).mono ?_
        rintro e y15 ⟨rfl, hs15, hg15⟩
        have HS15 := Lib.hid hs15
        have HG15 := Lib.hid (grownBy_trans HG14.out hg15)
        clear hs15 hg15
        obtain ⟨q, hq⟩ : ∃ q, stepI (isB b bd3 (r + 1) [43, 45]) (r + 1) = q := ⟨_, rfl⟩
        rw [hq] at HF0 h5a h5b HS15
        clear hq
        go_wp2_with fail
        refine (digits_any g vb b q bd3 _ HS15.out (HT.out.grown HG15.out) (by omega)).mono ?_
        rintro e y16 ⟨rfl, hs16, hg16⟩
        have HS16 := Lib.hid hs16
        have HG16 := Lib.hid (grownBy_trans HG15.out hg16)
        clear hs16 hg16
        go_wp2_with fail
        go_end0
        exact ⟨rfl, by rw [HF0.out]; exact HS16.out, HG16.out⟩
    | true =>
      have hm1 := HLT3.out rfl
      have HS12b : Hid (Scn _ g vb (m + 1) bd2) := HS12
      obtain ⟨h3a, h3b⟩ := digits_bd b (m + 1) bd2 (by omega)
      go_wp2_with fail
      refine (digits_any g vb b (m + 1) bd2 _ HS12b.out (HT.out.grown HG12.out) (by omega)).mono ?_
      rintro e y13 ⟨rfl, hs13, hg13⟩
      have HS13 := Lib.hid hs13
      have HG13 := Lib.hid (grownBy_trans HG12.out hg13)
      clear hs13 hg13
      obtain ⟨R3, hR3⟩ : ∃ R, dgS b (m + 1) bd2 = R := ⟨_, rfl⟩
      have H3' : Hid (numR b i = nr4 b R3) := Lib.hid (by rw [H2.out, H3.out, ← hR3]; rfl)
      rw [hR3] at h3a h3b HS13
      clear hR3
      obtain ⟨r, bd3⟩ := R3
      have hr : r ≤ b.length := h3b
      have HS13c : Hid (Scn _ g vb r bd3) := HS13
      have H4 : Hid (nr4 b (r, bd3) = if isB b bd3 r [101, 69] = true then dgS b (stepI (isB b bd3 (r + 1) [43, 45]) (r + 1)) bd3 else (r, bd3)) := Lib.hid rfl
      have HLT : Hid (isB b bd3 r [101, 69] = true → r < b.length) := Lib.hid isB_lt
      go_wp2_with fail
      refine (take_any g vb b r bd3 [101, 69] _ HS13c.out (HT.out.grown HG13.out) (by decide) (by omega)).mono ?_
      rintro e y17 ⟨rfl, hs17, hg17⟩
      have HS17 := Lib.hid hs17
      have HG17 := Lib.hid (grownBy_trans HG13.out hg17)
      clear hs17 hg17
      obtain ⟨t3, ht3⟩ : ∃ t, isB b bd3 r [101, 69] = t := ⟨_, rfl⟩
      rw [ht3] at H4 HLT HS17
      rw [ht3]
      clear ht3
      cases t3 with
      | false =>
        have HF : Hid (numR b i = (r, bd3)) := Lib.hid (H3'.out.trans H4.out)
        go_wp2_with fail
        go_end0
        exact ⟨rfl, by rw [HF.out]; exact HS17.out, HG17.out⟩
      | true =>
        have hr1 := HLT.out rfl
        have HF0 : Hid (numR b i = dgS b (stepI (isB b bd3 (r + 1) [43, 45]) (r + 1)) bd3) := Lib.hid (H3'.out.trans H4.out)
        obtain ⟨h5a, h5b⟩ := step_bd b (r + 1) bd3 [43, 45] (by omega)
        have HS17b : Hid (Scn _ g vb (r + 1) bd3) := HS17
        go_wp2_with fail
        refine (take_any g vb b (r + 1) bd3 [43, 45] _ HS17b.out (HT.out.grown HG17.out) (by decide) (by omega)).mono ?_
        rintro e y18 ⟨rfl, hs18, hg18⟩
        have HS18 := Lib.hid hs18
        have HG18 := Lib.hid (grownBy_trans HG17.out hg18)
        clear hs18 hg18
        obtain ⟨q, hq⟩ : ∃ q, stepI (isB b bd3 (r + 1) [43, 45]) (r + 1) = q := ⟨_, rfl⟩
        rw [hq] at HF0 h5a h5b HS18
        clear hq
        go_wp2_with fail
        refine (digits_any g vb b q bd3 _ HS18.out (HT.out.grown HG18.out) (by omega)).mono ?_
        rintro e y19 ⟨rfl, hs19, hg19⟩
        have HS19 := Lib.hid hs19
        have HG19 := Lib.hid (grownBy_trans HG18.out hg19)
        clear hs19 hg19
        go_wp2_with fail
        go_end0
        exact ⟨rfl, by rw [HF0.out]; exact HS19.out, HG19.out⟩
theorem isB_num {b : List UInt8} {i : Nat} : isB b false i [45, 48, 49, 50, 51, 52, 53, 54, 55, 56, 57] = decide (byt b i = 45 ∨ digC (byt b i) = true) := by
  have e : isB b false i [45, 48, 49, 50, 51, 52, 53, 54, 55, 56, 57] = (isB b false i [45] || isB b false i digL) := by
    unfold isB memB digL
    rw [Bool.eq_iff_iff]
    simp
    constructor
    · rintro ⟨h1, h2⟩
      rcases h2 with h2 | h2
      · exact .inl ⟨h1, h2⟩
      · exact .inr ⟨h1, h2⟩
    · rintro (⟨h1, h2⟩ | ⟨h1, h2⟩)
      · exact ⟨h1, .inl h2⟩
      · exact ⟨h1, .inr h2⟩
  rw [e, isB_dig, isB_one (by decide), Bool.eq_iff_iff]
  simp
theorem numM_no {b : List UInt8} {i : Nat} (h : ¬ (byt b i = 45 ∨ digC (byt b i) = true)) : (numM b i).2 = false := by
  have h1 : byt b i ≠ 45 := fun e => h (.inl e)
  have h2 : digC (byt b i) = false := by rw [Bool.eq_false_iff]; exact fun e => h (.inr e)
  have h3 : byt b i ≠ 48 := fun e => by rw [e] at h2; exact absurd h2 (by decide)
  unfold numM
  rw [if_neg h1]
  unfold intM
  rw [if_neg h3, if_neg (by rw [h2]; simp)]
set_option maxHeartbeats 4000000 in
theorem risNum_any (s : List UInt8) (w : World) (hm : s.length ≤ 1000000) :
    Calls Try.prog 32 #[.string ⟨s.toArray⟩] w fun e w' => e = .returned (.bool (isNumM s)) ∧ Below w.heap.size w w' := by
  have HI := Lib.hid (fun g vb W h1 h2 => is_any g vb s 0 false [45, 48, 49, 50, 51, 52, 53, 54, 55, 56, 57] W h1 h2 (by decide) (by omega))
  rw [isB_num] at HI
  by_cases hd : byt s 0 = 45 ∨ digC (byt s 0) = true
  · rw [decide_eq_true hd] at HI
    have HN := Lib.hid (fun g vb W h1 h2 => rnum_any g vb s 0 W h1 h2 (by omega))
    rw [numR_eq] at HN
    have HF : Hid (isNumM s = ((numM s 0).2 && ((numM s 0).1 == s.length))) := Lib.hid rfl
    obtain ⟨R, hR⟩ : ∃ R, numM s 0 = R := ⟨_, rfl⟩
    rw [hR] at HN HF
    clear hR hd
    obtain ⟨q, ok⟩ := R
    have HN2 : Hid (∀ g vb W, Scn W g vb 0 false → Text W g vb s → Calls Try.prog 48 #[.pointer (some ⟨g, 0, none⟩)] W fun e w' => e = .returned (.tuple #[]) ∧ Scn w' g vb q (notB ok) ∧ W.grownBy w' (some g)) := Lib.hid HN.out
    have HF2 : Hid (isNumM s = (ok && (q == s.length))) := Lib.hid HF.out
    clear HN HF
    go_enter Try.func32, Try.ntmps32
    go_wp2_with (refine wpList_toBytes _ (by rfl) 9 29 _ rfl 5 Try.underlying9 Try.underlying29 Try.underlying5 s rfl (by omega) ?_)
    intro b cap w1 h8 hbl hbe
    have H8 := Lib.hid h8
    have HB1 := Lib.hid hbl
    have HTB := Lib.hid (textB_of h8 hm)
    have hsz := hbl.size
    clear h8 hbl hbe
    go_wp2_with fail
    have HSX := Lib.hid (Box.new w1 57 [.slice (some ⟨b, 0, none⟩) s.length cap, .int .i64 0, .bool false])
    have HTX := Lib.hid ((HTB.out.below (ext_alloc w1 (.cells #[.slice (some ⟨b, 0, none⟩) s.length cap, .int .i64 0, .bool false] 57))).at (Nat.le_refl _))
    refine (HI.out _ _ _ (by exact HSX.out) (by exact HTX.out)).mono ?_
    rintro e w' ⟨rfl, k, rfl⟩
    go_wp2_with fail
    refine (HN2.out _ _ _ (by exact Box.drew HSX.out _) (HTX.out.grown (grownBy_drew _ _ _))).mono ?_
    rintro e x2 ⟨rfl, hs2, hg2⟩
    have HB2 := Lib.hid ((below_dr (HB1.out.alloc hsz _) k).grown hg2 (by simp; omega) (fun j hj => by injection hj with hj; omega))
    have e1 : x2.cell? ⟨w1.heap.size, 1, none⟩ = some (.int .i64 q) := Scn.c1 hs2
    have e2 : x2.cell? ⟨w1.heap.size, 2, none⟩ = some (.bool (notB ok)) := Scn.c2 hs2
    clear hs2 hg2
    cases ok with
    | false =>
      have e3 : x2.cell? ⟨w1.heap.size, 2, none⟩ = some (.bool true) := e2
      clear e2
      go_wp2_with fail
      go_ret
      exact ⟨ret_bool HF2.out.symm, HB2.out⟩
    | true =>
      have e3 : x2.cell? ⟨w1.heap.size, 2, none⟩ = some (.bool false) := e2
      clear e2
      by_cases hql : q = s.length
      · have HF3 : Hid (isNumM s = true) := Lib.hid (by rw [HF2.out, hql]; simp)
        have e4 : ((q : Int) == (s.length : Int)) = true := by rw [hql]; simp
        clear hql
        go_wp2_with fail
        go_ret
        exact ⟨ret_bool HF3.out.symm, HB2.out⟩
      · have HF3 : Hid (isNumM s = false) := Lib.hid (by rw [HF2.out]; simp [hql])
        have e4 : ((q : Int) == (s.length : Int)) = false := by rw [beq_eq_false_iff_ne]; omega
        clear hql
        go_wp2_with fail
        go_ret
        exact ⟨ret_bool HF3.out.symm, HB2.out⟩
  · rw [decide_eq_false hd] at HI
    have HF : Hid (isNumM s = false) := Lib.hid (by unfold isNumM; rw [numM_no hd]; rfl)
    clear hd
    go_enter Try.func32, Try.ntmps32
    go_wp2_with (refine wpList_toBytes _ (by rfl) 9 29 _ rfl 5 Try.underlying9 Try.underlying29 Try.underlying5 s rfl (by omega) ?_)
    intro b cap w1 h8 hbl hbe
    have HB1 := Lib.hid hbl
    have HTB := Lib.hid (textB_of h8 hm)
    have hsz := hbl.size
    clear h8 hbl hbe
    go_wp2_with fail
    have HSX := Lib.hid (Box.new w1 57 [.slice (some ⟨b, 0, none⟩) s.length cap, .int .i64 0, .bool false])
    have HTX := Lib.hid ((HTB.out.below (ext_alloc w1 (.cells #[.slice (some ⟨b, 0, none⟩) s.length cap, .int .i64 0, .bool false] 57))).at (Nat.le_refl _))
    refine (HI.out _ _ _ (by exact HSX.out) (by exact HTX.out)).mono ?_
    rintro e w' ⟨rfl, k, rfl⟩
    go_wp2_with fail
    go_ret
    exact ⟨ret_bool HF.out.symm, below_dr (HB1.out.alloc hsz _) _⟩
end Go.Proofs.Ytaklcjnfjchebaa
