/- Contracts of jtok's fault, Tokens. -/
import Derived.Test.YtkdmmmheciffgaaTokW
set_option linter.unusedVariables false
set_option linter.unusedSimpArgs false
namespace Go.Proofs.Ytkdmmmheciffgaa
open Go.RowKit

/-- Why a byte is wrong. -/
def faultN (b : List UInt8) (p : Nat) : Int := if p < b.length ∧ (nextL (b.drop p)).2.2 = false then 3 else 4
/-- All tokens of a text; or none, where it is wrong, and why. -/
def toksM (b : List UInt8) : List Tk × Nat × Int :=
  if (allM b (skipE b 0) []).2.2 = true then ((allM b (skipE b 0) []).1, b.length, 0) else ([], (allM b (skipE b 0) []).2.1, faultN b (allM b (skipE b 0) []).2.1)
theorem allF_bd (b : List UInt8) : ∀ (n i : Nat) (acc : List Tk), i ≤ b.length → acc.length ≤ i → (allF b n i acc).2.1 ≤ b.length ∧ (allF b n i acc).1.length ≤ b.length := by
  intro n
  induction n with
  | zero => intro i acc h h2; exact ⟨h, by show acc.length ≤ _; omega⟩
  | succ n ih =>
    intro i acc h h2
    unfold allF
    split
    · exact ⟨h, by show acc.length ≤ _; omega⟩
    rename_i c1
    obtain ⟨q1, q2⟩ := tokM_bd (b := b) (i := i) (by omega)
    split
    · rename_i c2
      have := q2 c2
      have := skipE_bd b (tokM b i).2.1 q1
      exact ih _ _ (by omega) (by simp; omega)
    · exact ⟨q1, by show acc.length ≤ _; omega⟩
theorem allM_bd (b : List UInt8) : (allM b (skipE b 0) []).2.1 ≤ b.length ∧ (allM b (skipE b 0) []).1.length ≤ b.length :=
  allF_bd b _ _ _ (skipE_bd b 0 (by omega)).2 (by simp)
set_option maxHeartbeats 2000000 in
theorem fault_any (vb : Value) (b : List UInt8) (p : Nat) (w : World) (hv : Is8 w vb b) (hm : b.length ≤ 1000000) (hp : p ≤ b.length) :
    Calls Try.prog 29 #[vb, .int .i64 p] w fun e w' => e = .returned (.int .i64 (faultN b p)) ∧ ∃ n, w' = w.drewN n := by
  have HV := Lib.hid hv
  obtain ⟨a, cap, e, h1, h2, -, h4⟩ := HV.out
  subst e
  have hmaxc := h2
  unfold maxLen at h2
  by_cases hlt : p < b.length
  · obtain ⟨bb, off, rfl, hc⟩ := h4 (by omega)
    have hltI : (p : Int) < (b.length : Int) := by omega
    have H8 : Hid (Is8 w (.slice (some ⟨bb, off + p, none⟩) (b.length - p) (cap - p)) (b.drop p)) := Lib.hid (Is8.dropAt hc p hlt h1 hmaxc)
    have HNX := Lib.hid (next_any _ (b.drop p) w H8.out (by simp; omega))
    have HF : Hid (faultN b p = if (nextL (b.drop p)).2.2 = false then 3 else 4) := Lib.hid (by unfold faultN; simp [hlt])
    obtain ⟨R, hR⟩ : ∃ R, nextL (b.drop p) = R := ⟨_, rfl⟩
    rw [hR] at HNX HF
    clear hR hc h4
    obtain ⟨r, m, ok⟩ := R
    have q1 : ¬ cap - p = 0 := by omega
    have q2 : ¬ cap ≤ p := by omega
    have HX2 : Hid (Calls Try.prog 41 #[.slice (some ⟨bb, off + p, none⟩) (b.length - p) (cap - p)] w fun e w' => e = .returned (.tuple #[.int .i32 r, .int .i64 (m : Nat), .bool ok]) ∧ ∃ n, w' = w.drewN n) := Lib.hid HNX.out
    have HF2 : Hid (faultN b p = if ok = false then 3 else 4) := Lib.hid HF.out
    clear HNX HF
    cases ok with
    | false =>
      go_enter Try.func29, Try.ntmps29
      go_wp2_with fail
      refine HX2.out.mono ?_
      rintro e w' ⟨rfl, k, rfl⟩
      go_wp2_with fail
      go_ret
      exact ⟨ret_n HF2.out.symm, _, rfl⟩
    | true =>
      go_enter Try.func29, Try.ntmps29
      go_wp2_with fail
      refine HX2.out.mono ?_
      rintro e w' ⟨rfl, k, rfl⟩
      go_wp2_with fail
      go_ret
      exact ⟨ret_n HF2.out.symm, _, rfl⟩
  · have HF : Hid (faultN b p = 4) := Lib.hid (by unfold faultN; simp [hlt])
    have hltI : (b.length : Int) ≤ (p : Int) := by omega
    clear h4
    go_enter Try.func29, Try.ntmps29
    go_wp2_with fail
    go_ret
    exact ⟨ret_n HF.out.symm, 0, rfl⟩
section
variable {ops : Array Oper} {rest : List Oper} {o : Oper} {a : Act} {Q : Exit → Act → World → Prop}
/-- make([]api.Tok, 0, n). -/
theorem wpList_makeT (w : World) (hw : Region.wanted o (yielded ops a.tmps) = true) (l c : Operand) (hop : o.op = Op.makeSlice 35 l c)
    (B : Nat) (kl kc : IntKind) (C : Int) (n : Nat) (hl : a.eval l = .int kl 0) (hc : a.eval c = .int kc C) (hC : C = (n : Int)) (hn : n ≤ 1000000) (hB : B ≤ w.heap.size)
    (h : ∀ w', OwnT w' B (.slice (some ⟨w.heap.size, 0, none⟩) 0 n) [] → w.grownBy w' none → wpList Try.prog ops Q rest (a.put o.dst (.slice (some ⟨w.heap.size, 0, none⟩) 0 n)) w') : wpList Try.prog ops Q (o :: rest) a w := by
  obtain ⟨i, hi, hz, hs1, hby⟩ := okT
  refine wpList_met hw fun K hK' => ?_
  obtain ⟨w', hrun, r1, r2⟩ := run_make_own (P := Try.prog) w B 35 40 i _ 3 Try.underlying35 hi hz hs1 kl kc n (by rw [hby]; omega) (by unfold maxLen; omega) hB
  subst hC
  unfold Oper.wp
  simp [execOp, hop, hl, hc, hrun, Result.andThen]
  exact hK' _ _ (h w' r1 r2)
end
theorem tup3T {v : Value} {p p' c c' : Int} (h1 : p = p') (h2 : c = c') : Ending.returned (.tuple #[v, .int .i64 p, .int .i64 c]) = .returned (.tuple #[v, .int .i64 p', .int .i64 c']) := by rw [h1, h2]
set_option maxRecDepth 100000 in
set_option maxHeartbeats 4000000 in
theorem Tokens_any (vb : Value) (b : List UInt8) (w : World) (hv : Is8 w vb b) (hm : b.length ≤ 1000000) :
    Calls Try.prog 17 #[vb] w fun e w' => ∃ vt, e = .returned (.tuple #[vt, .int .i64 (toksM b).2.1, .int .i64 (toksM b).2.2]) ∧ OwnT w' w.heap.size vt (toksM b).1 ∧ Below w.heap.size w w' := by
  have HV := Lib.hid hv
  have HTB : Hid (TextB w w.heap.size vb b) := Lib.hid ⟨hv, fun hn bb off l c e => by
    obtain ⟨a, cap, e2, h1, h2, h3, h4⟩ := hv
    obtain ⟨bb2, off2, e3, hc⟩ := h4 hn
    subst e2
    injection e with e4
    rw [e3] at e4
    injection e4 with e5
    injection e5 with e6
    have := hc.lt hn
    omega, hm⟩
  have HA := Lib.hid (fun (W : World) (g : Nat) (keep : Bool) vt (h : Scan W g vb 0 keep 0 vt) (ht : TextB W w.heap.size vb b) (ho : OwnT W w.heap.size vt []) (hg : w.heap.size ≤ g) => all_any g vb b keep vt w.heap.size W h ht ho hg)
  have HTM : Hid (toksM b = if (allM b (skipE b 0) []).2.2 = true then ((allM b (skipE b 0) []).1, b.length, 0) else ([], (allM b (skipE b 0) []).2.1, faultN b (allM b (skipE b 0) []).2.1)) := Lib.hid rfl
  obtain ⟨R, hR⟩ : ∃ R, allM b (skipE b 0) [] = R := ⟨_, rfl⟩
  have HRB : Hid (R.2.1 ≤ b.length ∧ R.1.length ≤ b.length) := Lib.hid (by rw [← hR]; exact allM_bd b)
  rw [hR] at HA HTM
  clear hR hv
  obtain ⟨acc, p, ok⟩ := R
  have hpb : p ≤ b.length := HRB.out.1
  have hab : acc.length ≤ b.length := HRB.out.2
  have HA2 : Hid (∀ (W : World) (g : Nat) (keep : Bool) vt, Scan W g vb 0 keep 0 vt → TextB W w.heap.size vb b → OwnT W w.heap.size vt [] → w.heap.size ≤ g → Calls Try.prog 28 #[.pointer (some ⟨g, 0, none⟩)] W fun e w' => e = .returned (.bool ok) ∧ ∃ vt', Scan w' g vb p keep (acc.length : Nat) vt' ∧ OwnT w' w.heap.size vt' (kT keep acc) ∧ Below w.heap.size W w') := Lib.hid HA.out
  have HTM2 : Hid (toksM b = if ok = true then (acc, b.length, 0) else ([], p, faultN b p)) := Lib.hid HTM.out
  clear HA HTM HRB
  obtain ⟨sa, scap, e, -, -, -, -⟩ := HV.out
  subst e
  cases ok with
  | false =>
    have HF : Hid (toksM b = ([], p, faultN b p)) := Lib.hid HTM2.out
    go_enter Try.func17, Try.ntmps17
    go_wp2_with fail
    refine (HA2.out _ _ false (.slice none 0 0) (Box.new w 60 _) (HTB.out.below (ext_alloc w _)) (OwnT.nil _ _) (Nat.le_refl _)).mono ?_
    rintro e x1 ⟨rfl, v1, hs1, ho1, hb1⟩
    have HB1 := Lib.hid ((ext_alloc w _).trans hb1)
    have HT1 := Lib.hid (HTB.out.below HB1.out)
    have d1 : x1.cell? ⟨w.heap.size, 1, none⟩ = some (.int .i64 p) := hs1.c1
    have HFQ := Lib.hid (fun n => fault_any (.slice sa b.length scap) b p (x1.drewN n) HT1.out.is hm hpb)
    clear hs1 ho1 hb1
    go_wp2_with fail
    go_quiet ((go_at_call 29; exact Calls.quiet_of (HFQ.out _)))
    go_wp2_with fail
    go_ret3
    refine ⟨.slice none 0 0, tup3T (by rw [HF.out]) (by rw [HF.out]), by rw [HF.out]; exact OwnT.nil _ _, below_drewN HB1.out _⟩
  | true =>
    have HF : Hid (toksM b = (acc, b.length, 0)) := Lib.hid HTM2.out
    go_enter Try.func17, Try.ntmps17
    go_wp2_with fail
    refine (HA2.out _ _ false (.slice none 0 0) (Box.new w 60 _) (HTB.out.below (ext_alloc w _)) (OwnT.nil _ _) (Nat.le_refl _)).mono ?_
    rintro e x1 ⟨rfl, v1, hs1, ho1, hb1⟩
    have HB1 := Lib.hid ((ext_alloc w _).trans hb1)
    have HT1 := Lib.hid (HTB.out.below HB1.out)
    have d3 : x1.cell? ⟨w.heap.size, 3, none⟩ = some (.int .i64 (acc.length : Nat)) := by rw [Box.cell hs1]; rfl
    have hsz1 := HB1.out.size
    clear hs1 ho1 hb1
    go_wp2_with (at_make; refine wpList_makeT _ rfl _ _ rfl w.heap.size _ _ _ acc.length rfl rfl rfl (by omega) (by omega) ?_)
    intro x2 hown2 hgr2
    have HO2 := Lib.hid hown2
    have HB2 := Lib.hid (HB1.out.grown hgr2 (by omega) (fun k hk => by cases hk))
    have HT2 := Lib.hid (HTB.out.below HB2.out)
    have hsz2 := HB2.out.size
    clear hown2 hgr2
    go_wp2_with fail
    refine (HA2.out _ _ true _ (Box.new x2 60 _) (HT2.out.below ((Below.refl _ x2).alloc hsz2 _)) (OwnT.below HO2.out (ext_alloc x2 _)) hsz2).mono ?_
    rintro e x3 ⟨rfl, v3, hs3, ho3, hb3⟩
    have HB3 := Lib.hid ((HB2.out.alloc hsz2 _).trans hb3)
    have HO3 := Lib.hid ho3
    have d4 : x3.cell? ⟨x2.heap.size, 4, none⟩ = some v3 := by rw [Box.cell hs3]; rfl
    obtain ⟨va, vc, e4⟩ := ho3.slice
    clear hs3 ho3 hb3
    go_wp2_with fail
    go_ret3
    have h := HO3.out
    rw [e4] at h
    exact ⟨_, tup3T (by rw [HF.out]) (by rw [HF.out]), by rw [HF.out]; exact h, HB3.out⟩
end Go.Proofs.Ytkdmmmheciffgaa
