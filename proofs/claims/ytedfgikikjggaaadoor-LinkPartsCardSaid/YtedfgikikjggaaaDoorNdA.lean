/- Two lists of nodes; are nodes too much. -/
import Derived.Test.YtedfgikikjggaaaDoorNds
import Derived.Test.YtedfgikikjggaaaDoorStrs
set_option linter.unusedVariables false
set_option linter.unusedSimpArgs false
namespace Go.Proofs.YtedfgikikjggaaaDoor
open Go.RowKit

/-- What nodes come to, of at most 10,000 bytes a text. -/
def bigZ : Int → List Nd → Int
  | z, [] => z
  | z, n :: l => if z < 0 then z else bigZ (z - min (n.p.length : Int) 10000 - min (n.d.length : Int) 10000) l
def bigN (z : Int) (ns : List Nd) : Bool := decide (40 < ns.length) || decide (bigZ z ns < 0)
theorem bigZ_neg {z : Int} {ns : List Nd} (h : z < 0) : bigZ z ns = z := by
  cases ns with
  | nil => rfl
  | cons n l => unfold bigZ; rw [if_pos h]
theorem bigZ_step {z : Int} {ns : List Nd} {i : Nat} (h : i < ns.length) (hz : 0 ≤ z) : bigZ z (ns.drop i) = bigZ (z - min ((ndAt ns i).p.length : Int) 10000 - min ((ndAt ns i).d.length : Int) 10000) (ns.drop (i + 1)) := by
  rw [List.drop_eq_getElem_cons h]
  conv => lhs; unfold bigZ
  rw [if_neg (by omega)]
  have : ndAt ns i = ns[i] := by unfold ndAt; rw [List.getD_eq_getElem?_getD, List.getElem?_eq_getElem h]; rfl
  rw [this]
set_option maxRecDepth 100000 in
set_option maxHeartbeats 4000000 in
theorem Big_any (v : Value) (ns : List Nd) (z0 : Int) (w : World) (hv : IsNds w v ns) (hz : z0 ≤ 1000000) (hz0 : 0 ≤ z0) :
    Calls Tryd.prog 7 #[v, .int .i64 z0] w fun e w' => e = .returned (.bool (bigN z0 ns)) ∧ ∃ n, w' = w.drewN n := by
  obtain ⟨a, cap, rfl, a1, a2, -, a3⟩ := hv
  unfold maxLen at a2
  by_cases h40 : 40 < ns.length
  · have hI : (40 : Int) < (ns.length : Int) := by omega
    have HB : Hid (bigN z0 ns = true) := Lib.hid (by unfold bigN; simp [h40])
    clear a3
    go_enter Tryd.func7, Tryd.ntmps7
    go_wp2_with fail
    go_ret
    exact ⟨ret_b HB.out.symm, 0, rfl⟩
  · have hI : (ns.length : Int) ≤ 40 := by omega
    have HB : Hid (bigN z0 ns = decide (bigZ z0 ns < 0)) := Lib.hid (by unfold bigN; simp [h40])
    clear h40
    go_enter Tryd.func7, Tryd.ntmps7
    go_wp2_with fail
    go_loopw [1, 5] (fun tz ti wr => ∃ (z : Int) (i : Nat), i ≤ ns.length ∧ tz = .int .i64 z ∧ ti = .int .i64 i ∧ -100000 ≤ z ∧ z ≤ 1000000 ∧ Hid (bigZ z (ns.drop i) = bigZ z0 ns) ∧ ∃ m, wr = w.drewN m) (fun _ ti _ => ns.length - (intOf ti).toNat)
    case atStart => exact ⟨z0, 0, Nat.zero_le _, rfl, rfl, by omega, hz, Lib.hid rfl, 0, rfl⟩
    case round =>
      obtain ⟨z, i, hi, rfl, rfl, hz1, hz2, HZ, m, rfl⟩ := hrel
      by_cases hlt : i < ns.length
      · have hltI : (i : Int) < (ns.length : Int) := by omega
        by_cases hneg : z < 0
        · have HF : Hid (bigZ z0 ns < 0) := Lib.hid (by rw [← HZ.out, bigZ_neg hneg]; exact hneg)
          have hn2 : ¬ 0 ≤ z := by omega
          clear a3 HZ
          go_wp2_with fail
          go_ret
          exact ⟨ret_b (by rw [HB.out, decide_eq_true HF.out]), _, rfl⟩
        · have hge : 0 ≤ z := by omega
          obtain ⟨ga, oa, rfl, ca⟩ := a3 (by omega)
          obtain ⟨a0', a1', a2'⟩ := ca i hlt
          have HS : Hid (bigZ z (ns.drop i) = bigZ (z - min ((ndAt ns i).p.length : Int) 10000 - min ((ndAt ns i).d.length : Int) 10000) (ns.drop (i + 1))) := Lib.hid (bigZ_step hlt hge)
          obtain ⟨p, hp⟩ : ∃ p, (ndAt ns i).p = p := ⟨_, rfl⟩
          obtain ⟨d, hd⟩ : ∃ d, (ndAt ns i).d = d := ⟨_, rfl⟩
          obtain ⟨x, hx⟩ : ∃ x : Int, min (p.length : Int) 10000 = x := ⟨_, rfl⟩
          obtain ⟨y, hy⟩ : ∃ y : Int, min (d.length : Int) 10000 = y := ⟨_, rfl⟩
          have hx1 : 0 ≤ x ∧ x ≤ 10000 := by omega
          have hy1 : 0 ≤ y ∧ y ≤ 10000 := by omega
          rw [hp] at a0' HS
          rw [hd] at a2' HS
          rw [hx, hy] at HS
          have mx : ∀ w ty, (Builtin.min_ #[3, 3] ty #[.int .i64 (p.length : Int), .int .i64 10000]).run Tryd.prog w = .ok (.int .i64 x) w := fun w ty => by
            rw [← hx]; go_simp; try (split <;> simp <;> omega)
          have my : ∀ w ty, (Builtin.min_ #[3, 3] ty #[.int .i64 (d.length : Int), .int .i64 10000]).run Tryd.prog w = .ok (.int .i64 y) w := fun w ty => by
            rw [← hy]; go_simp; try (split <;> simp <;> omega)
          have HZ2 : Hid (bigZ (z - x - y) (ns.drop (i + 1)) = bigZ z0 ns) := Lib.hid (by rw [← HS.out, HZ.out])
          clear hx hy hp hd HS HZ ca a3
          go_wp2_with fail
          go_region
          go_wp2_with fail
          exact ⟨⟨z - x - y, i + 1, by omega, rfl, by go_num, by omega, by omega, HZ2, _, by first | rfl | (rw [World.drewN_drewN])⟩, by simp [intOf]; omega⟩
      · obtain rfl : i = ns.length := by omega
        have HF : Hid (bigZ z0 ns = z) := Lib.hid (by rw [← HZ.out, List.drop_length]; rfl)
        clear a3 HZ
        go_wp2_with fail
        go_ret
        exact ⟨ret_b (by rw [HB.out, HF.out]), _, rfl⟩
end Go.Proofs.YtedfgikikjggaaaDoor
