/- Two lists of nodes; are nodes too much. -/
import Derived.Test.YtcdkojdjcifkpaaDoorNds
import Derived.Test.YtcdkojdjcifkpaaDoorStrs
set_option linter.unusedVariables false
set_option linter.unusedSimpArgs false
namespace Go.Proofs.YtcdkojdjcifkpaaDoor
open Go.RowKit

set_option maxRecDepth 100000 in
set_option maxHeartbeats 4000000 in
theorem Nodes_any (va vb : Value) (ts us : List Nd) (w : World) (ha : IsNds w va ts) (hb : IsNds w vb us) (hm : ts.length ≤ 1000000) (hn : us.length ≤ 1000000) :
    Calls Tryd.prog 12 #[va, vb] w fun e w' => (∃ b, e = .returned (.bool b) ∧ (b = true ↔ ts = us)) ∧ ∃ n, w' = w.drewN n := by
  obtain ⟨a, capa, rfl, a1, a2, -, a3⟩ := ha
  obtain ⟨b, capb, rfl, b1, b2, -, b3⟩ := hb
  by_cases hl : ts.length = us.length
  · rw [← hl] at b1 b3
    have HX := Lib.hid (fun h => @nds_ext ts us hl h)
    have e1 : ((ts.length : Int) != (us.length : Int)) = false := by rw [hl]; simp
    have HL := Lib.hid hl
    rw [← hl]
    clear hl e1
    go_enter Tryd.func12, Tryd.ntmps12
    go_wp2_with fail
    go_loopw [5] (fun tj wr => ∃ j : Nat, j ≤ ts.length ∧ tj = .int .i64 j ∧ Hid (∀ k, k < j → ndAt ts k = ndAt us k) ∧ ∃ m, wr = w.drewN m) (fun tj _ => ts.length - (intOf tj).toNat)
    case atStart => exact ⟨0, Nat.zero_le _, rfl, Lib.hid (fun k hk => by omega), 0, rfl⟩
    case round =>
      obtain ⟨j, hj, rfl, HE, m, rfl⟩ := hrel
      by_cases hlt : j < ts.length
      · have hltI : (j : Int) < (ts.length : Int) := by omega
        obtain ⟨ga, oa, rfl, ca⟩ := a3 (by omega)
        obtain ⟨gb, ob, rfl, cb⟩ := b3 (by omega)
        obtain ⟨a0', a1', a2'⟩ := ca j hlt
        obtain ⟨b0', b1', b2'⟩ := cb j (by have := HL.out; omega)
        have HRN := Lib.hid (fun w => nd_neq_run (ndAt ts j) (ndAt us j) w)
        by_cases hq : ndAt ts j = ndAt us j
        · have HN : Hid (∀ k, k < j + 1 → ndAt ts k = ndAt us k) := Lib.hid (fun k hk => by
            rcases Nat.lt_or_ge k j with h3 | h3
            · exact HE.out k h3
            · obtain rfl : k = j := by omega
              exact hq)
          have HQ : Hid (Nd.beq (ndAt ts j) (ndAt us j) = true) := Lib.hid (Nd.beq_iff.2 hq)
          have hrun : ∀ w, (binOp .neq 37 (.agg #[.string ⟨(ndAt ts j).p.toArray⟩, .int .i64 (ndAt ts j).k, .string ⟨(ndAt ts j).d.toArray⟩]) (.agg #[.string ⟨(ndAt us j).p.toArray⟩, .int .i64 (ndAt us j).k, .string ⟨(ndAt us j).d.toArray⟩])).run Tryd.prog w = .ok (.bool false) w := fun w => by
            have := HRN.out w; unfold ndV at this; rw [this, HQ.out]; rfl
          clear hq ca cb a3 b3
          go_wp2_with fail
          go_quiet (fail)
          go_wp2_with fail
          exact ⟨⟨j + 1, by omega, by go_num, HN, _, by first | rfl | (rw [World.drewN_drewN])⟩, by simp [intOf]; omega⟩
        · have HQ : Hid (Nd.beq (ndAt ts j) (ndAt us j) = false) := Lib.hid (by rw [Bool.eq_false_iff]; exact fun h => hq (Nd.beq_iff.1 h))
          have HF : Hid (ts ≠ us) := Lib.hid (fun h => hq (by rw [h]))
          have hrun : ∀ w, (binOp .neq 37 (.agg #[.string ⟨(ndAt ts j).p.toArray⟩, .int .i64 (ndAt ts j).k, .string ⟨(ndAt ts j).d.toArray⟩]) (.agg #[.string ⟨(ndAt us j).p.toArray⟩, .int .i64 (ndAt us j).k, .string ⟨(ndAt us j).d.toArray⟩])).run Tryd.prog w = .ok (.bool true) w := fun w => by
            have := HRN.out w; unfold ndV at this; rw [this, HQ.out]; rfl
          clear hq ca cb a3 b3
          go_wp2_with fail
          go_quiet (fail)
          go_wp2_with fail
          go_ret
          exact ⟨⟨_, rfl, by simp [HF.out]⟩, _, by first | rfl | (rw [World.drewN_drewN])⟩
      · obtain rfl : j = ts.length := by omega
        have HF : Hid (ts = us) := Lib.hid (HX.out HE.out)
        clear HE a3 b3
        go_wp2_with fail
        go_ret
        exact ⟨⟨_, rfl, by simp [HF.out]⟩, _, rfl⟩
  · have e1 : ((ts.length : Int) != (us.length : Int)) = true := by simp; omega
    have HF : Hid (ts ≠ us) := Lib.hid (fun h => hl (by rw [h]))
    clear hl a3 b3
    go_enter Tryd.func12, Tryd.ntmps12
    go_wp2_with fail
    go_ret
    exact ⟨⟨_, rfl, by simp [HF.out]⟩, 0, rfl⟩
/-- What nodes come to, of at most 10,000 bytes a text. -/
def bigZ : Int → List Nd → Int
  | z, [] => z
  | z, n :: l => if z < 0 then z else bigZ (z - min (n.p.length : Int) 10000 - min (n.d.length : Int) 10000) l
def bigN (z : Int) (ns : List Nd) : Bool := decide (40 < ns.length) || decide (bigZ z ns < 0)
theorem bigZ_neg {z : Int} {ns : List Nd} (h : z < 0) : bigZ z ns = z := by
  cases ns with
  | nil => rfl
  | cons n l => unfold bigZ; rw [if_pos h]
theorem bigZ_step {z : Int} {ns : List Nd} {i : Nat} (h : i < ns.length) (hz : 0 ≤ z) : bigZ z (ns.drop i) = bigZ (z - min ((ndAt ns i).p.length : Int) 10000 - min ((ndAt ns i).d.length : Int) 10000) (ns.drop (i + 1)) := by
  rw [List.drop_eq_getElem_cons h]
  conv => lhs; unfold bigZ
  rw [if_neg (by omega)]
  have : ndAt ns i = ns[i] := by unfold ndAt; rw [List.getD_eq_getElem?_getD, List.getElem?_eq_getElem h]; rfl
  rw [this]
set_option maxRecDepth 100000 in
set_option maxHeartbeats 4000000 in
theorem Big_any (v : Value) (ns : List Nd) (z0 : Int) (w : World) (hv : IsNds w v ns) (hz : z0 ≤ 1000000) (hz0 : 0 ≤ z0) :
    Calls Tryd.prog 8 #[v, .int .i64 z0] w fun e w' => e = .returned (.bool (bigN z0 ns)) ∧ ∃ n, w' = w.drewN n := by
  obtain ⟨a, cap, rfl, a1, a2, -, a3⟩ := hv
  unfold maxLen at a2
  by_cases h40 : 40 < ns.length
  · have hI : (40 : Int) < (ns.length : Int) := by omega
    have HB : Hid (bigN z0 ns = true) := Lib.hid (by unfold bigN; simp [h40])
    clear a3
    go_enter Tryd.func8, Tryd.ntmps8
    go_wp2_with fail
    go_ret
    exact ⟨ret_b HB.out.symm, 0, rfl⟩
  · have hI : (ns.length : Int) ≤ 40 := by omega
    have HB : Hid (bigN z0 ns = decide (bigZ z0 ns < 0)) := Lib.hid (by unfold bigN; simp [h40])
    clear h40
    go_enter Tryd.func8, Tryd.ntmps8
    go_wp2_with fail
    go_loopw [1, 5] (fun tz ti wr => ∃ (z : Int) (i : Nat), i ≤ ns.length ∧ tz = .int .i64 z ∧ ti = .int .i64 i ∧ -100000 ≤ z ∧ z ≤ 1000000 ∧ Hid (bigZ z (ns.drop i) = bigZ z0 ns) ∧ ∃ m, wr = w.drewN m) (fun _ ti _ => ns.length - (intOf ti).toNat)
    case atStart => exact ⟨z0, 0, Nat.zero_le _, rfl, rfl, by omega, hz, Lib.hid rfl, 0, rfl⟩
    case round =>
      obtain ⟨z, i, hi, rfl, rfl, hz1, hz2, HZ, m, rfl⟩ := hrel
      by_cases hlt : i < ns.length
      · have hltI : (i : Int) < (ns.length : Int) := by omega
        by_cases hneg : z < 0
        · have HF : Hid (bigZ z0 ns < 0) := Lib.hid (by rw [← HZ.out, bigZ_neg hneg]; exact hneg)
          have hn2 : ¬ 0 ≤ z := by omega
          clear a3 HZ
          go_wp2_with fail
          go_ret
          exact ⟨ret_b (by rw [HB.out, decide_eq_true HF.out]), _, rfl⟩
        · have hge : 0 ≤ z := by omega
          obtain ⟨ga, oa, rfl, ca⟩ := a3 (by omega)
          obtain ⟨a0', a1', a2'⟩ := ca i hlt
          have HS : Hid (bigZ z (ns.drop i) = bigZ (z - min ((ndAt ns i).p.length : Int) 10000 - min ((ndAt ns i).d.length : Int) 10000) (ns.drop (i + 1))) := Lib.hid (bigZ_step hlt hge)
          obtain ⟨p, hp⟩ : ∃ p, (ndAt ns i).p = p := ⟨_, rfl⟩
          obtain ⟨d, hd⟩ : ∃ d, (ndAt ns i).d = d := ⟨_, rfl⟩
          obtain ⟨x, hx⟩ : ∃ x : Int, min (p.length : Int) 10000 = x := ⟨_, rfl⟩
          obtain ⟨y, hy⟩ : ∃ y : Int, min (d.length : Int) 10000 = y := ⟨_, rfl⟩
          have hx1 : 0 ≤ x ∧ x ≤ 10000 := by omega
          have hy1 : 0 ≤ y ∧ y ≤ 10000 := by omega
          rw [hp] at a0' HS
          rw [hd] at a2' HS
          rw [hx, hy] at HS
          have mx : ∀ w ty, (Builtin.min_ #[3, 3] ty #[.int .i64 (p.length : Int), .int .i64 10000]).run Tryd.prog w = .ok (.int .i64 x) w := fun w ty => by
            rw [← hx]; go_simp; try (split <;> simp <;> omega)
          have my : ∀ w ty, (Builtin.min_ #[3, 3] ty #[.int .i64 (d.length : Int), .int .i64 10000]).run Tryd.prog w = .ok (.int .i64 y) w := fun w ty => by
            rw [← hy]; go_simp; try (split <;> simp <;> omega)
          have HZ2 : Hid (bigZ (z - x - y) (ns.drop (i + 1)) = bigZ z0 ns) := Lib.hid (by rw [← HS.out, HZ.out])
          clear hx hy hp hd HS HZ ca a3
          go_wp2_with fail
          go_region
          go_wp2_with fail
          exact ⟨⟨z - x - y, i + 1, by omega, rfl, by go_num, by omega, by omega, HZ2, _, by first | rfl | (rw [World.drewN_drewN])⟩, by simp [intOf]; omega⟩
      · obtain rfl : i = ns.length := by omega
        have HF : Hid (bigZ z0 ns = z) := Lib.hid (by rw [← HZ.out, List.drop_length]; rfl)
        clear a3 HZ
        go_wp2_with fail
        go_ret
        exact ⟨ret_b (by rw [HB.out, HF.out]), _, rfl⟩
end Go.Proofs.YtcdkojdjcifkpaaDoor
